/-
  The contract of the document's Of, by the numbers that stand in it: noughts and others.
-/
import Derived.Test.YtjcjecbffnadaabPa
namespace Go.Proofs.Ytjcjecbffnadaab
open Go.RowKit
set_option maxHeartbeats 2000000 in
theorem rof_o_load {p : Nat} {bi : Int} (w : World) (h1 : 1 ≤ p) (h2 : p ≤ 52) (_hb0 : 0 ≤ bi) (_hb1 : bi ≤ 1023) (K P P2 M LD : Nat) (X : Int) (ng qu : Bool) (_hK0 : 3 ≤ K) (_hK1 : K ≤ 2047) (hP : IntKind.u64.wrap ((2 : Int) ^ p) = P) (_hP2 : IntKind.u64.wrap ((2 : Int) ^ (p + 1)) = P2) (_hP1 : 1 ≤ P) (_hP3 : P ≤ 4503599627370496)
    (kd : Int) (n1 : ¬ kd = 1) (n2 : ¬ kd = 2) (n3 : ¬ kd = 3) (n4 : ¬ kd = 4) 
    (c1 : (P : Int) < LD) :
    Calls Try.prog 66 #[.agg #[.int .i64 kd, .bool ng, .int .u64 M, .int .i64 X, .bool qu, .int .u64 LD], .agg #[.int .i64 p, .int .i64 K, .int .i64 bi]] w fun e w' => e = .returned (.tuple #[.int .u64 0, .int .i64 40]) ∧ Below w.heap.size w w' := by
  go_enter Try.func66, Try.ntmps66
  go_wp2
  refine bodyPost_ret (v := .tuple #[.int .u64 0, .int .i64 40]) (by simp [results, Try.results66, go_sem]) rfl ⟨rfl, ((Below.refl _ _).alloc (Nat.le_refl _) _).alloc (by simp) _⟩
set_option maxHeartbeats 2000000 in
theorem rof_o_mant {p : Nat} {bi : Int} (w : World) (h1 : 1 ≤ p) (h2 : p ≤ 52) (_hb0 : 0 ≤ bi) (_hb1 : bi ≤ 1023) (K P P2 M LD : Nat) (X : Int) (ng qu : Bool) (_hK0 : 3 ≤ K) (_hK1 : K ≤ 2047) (hP : IntKind.u64.wrap ((2 : Int) ^ p) = P) (hP2 : IntKind.u64.wrap ((2 : Int) ^ (p + 1)) = P2) (_hP1 : 1 ≤ P) (_hP3 : P ≤ 4503599627370496)
    (kd : Int) (n1 : ¬ kd = 1) (n2 : ¬ kd = 2) (n3 : ¬ kd = 3) (n4 : ¬ kd = 4) 
    (c1 : ¬ (P : Int) < LD) (c2 : (P2 : Int) < M) :
    Calls Try.prog 66 #[.agg #[.int .i64 kd, .bool ng, .int .u64 M, .int .i64 X, .bool qu, .int .u64 LD], .agg #[.int .i64 p, .int .i64 K, .int .i64 bi]] w fun e w' => e = .returned (.tuple #[.int .u64 0, .int .i64 40]) ∧ Below w.heap.size w w' := by
  go_enter Try.func66, Try.ntmps66
  go_wp2
  refine bodyPost_ret (v := .tuple #[.int .u64 0, .int .i64 40]) (by simp [results, Try.results66, go_sem]) rfl ⟨rfl, ((Below.refl _ _).alloc (Nat.le_refl _) _).alloc (by simp) _⟩
set_option maxHeartbeats 2000000 in
theorem rof_o_false {p : Nat} {bi : Int} (w : World) (h1 : 1 ≤ p) (h2 : p ≤ 52) (_hb0 : 0 ≤ bi) (_hb1 : bi ≤ 1023) (K P P2 M LD : Nat) (X : Int) (qu : Bool) (_hK0 : 3 ≤ K) (_hK1 : K ≤ 2047) (hP : IntKind.u64.wrap ((2 : Int) ^ p) = P) (hP2 : IntKind.u64.wrap ((2 : Int) ^ (p + 1)) = P2) (_hP1 : 1 ≤ P) (_hP3 : P ≤ 4503599627370496)
    (kd : Int) (n1 : ¬ kd = 1) (n2 : ¬ kd = 2) (n3 : ¬ kd = 3) (n4 : ¬ kd = 4) 
    (c1 : ¬ (P : Int) < LD) (c2 : ¬ (P2 : Int) < M) (PV : Value) (NE : Bool) (k15 : ∀ w, Calls Try.prog 11 #[.int .u64 0, .agg #[.int .i64 p, .int .i64 K, .int .i64 bi]] w fun e w' => e = .returned PV ∧ Below w.heap.size w w') (hNG : ∀ w, (eqGuard .neq 27 (.tmp 123) (.tmp 124) PV (.agg #[.int .i64 kd, .bool false, .int .u64 M, .int .i64 X, .bool qu, .int .u64 LD])).run Try.prog w = .ok () w) (hNE : ∀ w, (binOp .neq 27 PV (.agg #[.int .i64 kd, .bool false, .int .u64 M, .int .i64 X, .bool qu, .int .u64 LD])).run Try.prog w = .ok (.bool NE) w) :
    Calls Try.prog 66 #[.agg #[.int .i64 kd, .bool false, .int .u64 M, .int .i64 X, .bool qu, .int .u64 LD], .agg #[.int .i64 p, .int .i64 K, .int .i64 bi]] w fun e w' => e = .returned (if NE then .tuple #[.int .u64 0, .int .i64 40] else .tuple #[.int .u64 0, .int .i64 0]) ∧ Below w.heap.size w w' := by
  go_enter Try.func66, Try.ntmps66
  go_wp2_with fail
  refine wp_region_vals (a1 := ?a1r19n1) (grown _) [.int .u64 0, .agg #[.int .i64 p, .int .i64 K, .int .i64 bi], PV, .agg #[.int .i64 kd, .bool false, .int .u64 M, .int .i64 X, .bool qu, .int .u64 LD], .bool NE] 127 rfl (by kernel_rfl) (by kernel_rfl) (grown_start _) ⟨?o0r19n1, ?o1r19n1, ?o2r19n1, ?o3r19n1, ?o4r19n1, trivial⟩ ?har19n1 ?hdoner19n1
  case har19n1 => simp [putAll, Act.put]; exact rfl
  case o0r19n1 => exact ValOp.pure (grown_steady _ 0) [(6, .int .u64 0)] rfl (fun _ _ h2 => ⟨(h2 6 (by kernel_rfl)).trans rfl, trivial⟩) (by kernel_rfl) (fun _ _ _ _ _ => by kernel_rfl)
  case o1r19n1 => exact ValOp.pure (grown_steady _ 1) [(3, .pointer (some ⟨(w.heap.size + 1), 0, none⟩))] rfl (fun _ _ h2 => ⟨(h2 3 (by kernel_rfl)).trans rfl, trivial⟩) (by kernel_rfl) (fun _ _ _ hg _ => run_read rfl rfl (run_loadVar_row _ _ _ _ _ _ _ (below_at (last_at _ _ (by simp)) hg) Try.underlying30 rfl (by kernel_rfl)))
  case o2r19n1 => exact ValOp.call (grown_steady _ 2) [(121, .int .u64 0), (122, .agg #[.int .i64 p, .int .i64 K, .int .i64 bi])] rfl (fun _ h1 _ => ⟨h1 0 121 (by kernel_rfl), h1 1 122 (by kernel_rfl), trivial⟩) (by kernel_rfl) 11 #[.int .u64 0, .agg #[.int .i64 p, .int .i64 K, .int .i64 bi]] (fun _ => by kernel_rfl) (fun _ w _ => k15 w)
  case o3r19n1 => exact ValOp.pure (grown_steady _ 3) [(2, .pointer (some ⟨w.heap.size, 0, none⟩))] rfl (fun _ _ h2 => ⟨(h2 2 (by kernel_rfl)).trans rfl, trivial⟩) (by kernel_rfl) (fun _ _ _ hg _ => run_read rfl rfl (run_loadVar_row _ _ _ _ _ _ _ (below_at ((Below.heap_alloc _ _ _ (by simp)).trans (heap_alloc_last _ _)) hg) Try.underlying27 rfl (by kernel_rfl)))
  case o4r19n1 => exact ValOp.pure (grown_steady _ 4) [(123, PV), (124, .agg #[.int .i64 kd, .bool false, .int .u64 M, .int .i64 X, .bool qu, .int .u64 LD])] rfl (fun _ h1 _ => ⟨h1 2 123 (by kernel_rfl), h1 3 124 (by kernel_rfl), trivial⟩) (by kernel_rfl) (fun _ _ _ _ _ => run_bin (a := PV) (b := .agg #[.int .i64 kd, .bool false, .int .u64 M, .int .i64 X, .bool qu, .int .u64 LD]) rfl rfl rfl (hNG _) (hNE _))
  intro w2 s2 _ hb2
  replace hb2 : Below _ _ w2 := hb2
  have B2 : Hid (Below w.heap.size w w2) := by
    have h : Below w.heap.size _ w2 := hb2.mono (by simp <;> omega)
    exact (((Below.refl _ _).alloc (Nat.le_refl _) _).alloc (by simp) _).trans h
  clear hb2
  refine (by assumption : ∀ (a : Act) (w : World), Code.wp Try.prog (Code.cond _ _ _) _ a w → _) _ _ ?_
  cases NE
  · go_wp2
    refine bodyPost_ret (v := .tuple #[.int .u64 0, .int .i64 0]) (by simp [results, Try.results66, go_sem]) rfl ⟨rfl, B2.out⟩
  · go_wp2
    refine bodyPost_ret (v := .tuple #[.int .u64 0, .int .i64 40]) (by simp [results, Try.results66, go_sem]) rfl ⟨rfl, B2.out⟩
set_option maxHeartbeats 2000000 in
theorem rof_o_true {p : Nat} {bi : Int} (w : World) (h1 : 1 ≤ p) (h2 : p ≤ 52) (_hb0 : 0 ≤ bi) (_hb1 : bi ≤ 1023) (K P P2 M LD : Nat) (X : Int) (qu : Bool) (_hK0 : 3 ≤ K) (_hK1 : K ≤ 2047) (hP : IntKind.u64.wrap ((2 : Int) ^ p) = P) (hP2 : IntKind.u64.wrap ((2 : Int) ^ (p + 1)) = P2) (_hP1 : 1 ≤ P) (_hP3 : P ≤ 4503599627370496)
    (kd : Int) (n1 : ¬ kd = 1) (n2 : ¬ kd = 2) (n3 : ¬ kd = 3) (n4 : ¬ kd = 4) 
    (S VS : Nat) (hVS : bits .or .u64 (0 : Int) S = VS) (k44 : ∀ w, Calls Try.prog 48 #[.agg #[.int .i64 p, .int .i64 K, .int .i64 bi]] w fun e w' => e = .returned (.int .u64 S) ∧ Below w.heap.size w w') (c1 : ¬ (P : Int) < LD) (c2 : ¬ (P2 : Int) < M) (PV : Value) (NE : Bool) (k15 : ∀ w, Calls Try.prog 11 #[.int .u64 VS, .agg #[.int .i64 p, .int .i64 K, .int .i64 bi]] w fun e w' => e = .returned PV ∧ Below w.heap.size w w') (hNG : ∀ w, (eqGuard .neq 27 (.tmp 123) (.tmp 124) PV (.agg #[.int .i64 kd, .bool true, .int .u64 M, .int .i64 X, .bool qu, .int .u64 LD])).run Try.prog w = .ok () w) (hNE : ∀ w, (binOp .neq 27 PV (.agg #[.int .i64 kd, .bool true, .int .u64 M, .int .i64 X, .bool qu, .int .u64 LD])).run Try.prog w = .ok (.bool NE) w) :
    Calls Try.prog 66 #[.agg #[.int .i64 kd, .bool true, .int .u64 M, .int .i64 X, .bool qu, .int .u64 LD], .agg #[.int .i64 p, .int .i64 K, .int .i64 bi]] w fun e w' => e = .returned (if NE then .tuple #[.int .u64 0, .int .i64 40] else .tuple #[.int .u64 VS, .int .i64 0]) ∧ Below w.heap.size w w' := by
  go_enter Try.func66, Try.ntmps66
  go_wp2_with (go_at_call 48; refine (k44 _).mono ?_)
  rintro e w1 rfl bb1
  have x1 : w1.heap[w.heap.size]? = some (.cells #[.int .i64 kd, .bool true, .int .u64 M, .int .i64 X, .bool qu, .int .u64 LD] 27 (0, 0)) := (bb1.block _ (by omega)).trans ((Below.heap_alloc _ _ _ (by simp)).trans (heap_alloc_last _ _))
  have z1 : w1.heap[w.heap.size + 1]? = some (.cells #[.int .i64 p, .int .i64 K, .int .i64 bi] 30 (0, 0)) := (bb1.block _ (by omega)).trans (last_at _ _ (by simp))
  have B1 : Hid (Below w.heap.size w w1) := by
    have h : Below w.heap.size _ w1 := bb1.mono (by omega)
    exact (((Below.refl _ _).alloc (Nat.le_refl _) _).alloc (by simp) _).trans h
  clear bb1
  go_wp2_with fail
  refine wp_region_vals (a1 := ?a1r19n2) (grown _) [.int .u64 VS, .agg #[.int .i64 p, .int .i64 K, .int .i64 bi], PV, .agg #[.int .i64 kd, .bool true, .int .u64 M, .int .i64 X, .bool qu, .int .u64 LD], .bool NE] 127 rfl (by kernel_rfl) (by kernel_rfl) (grown_start _) ⟨?o0r19n2, ?o1r19n2, ?o2r19n2, ?o3r19n2, ?o4r19n2, trivial⟩ ?har19n2 ?hdoner19n2
  case har19n2 => simp [putAll, Act.put]; exact rfl
  case o0r19n2 => exact ValOp.pure (grown_steady _ 0) [(6, .int .u64 VS)] rfl (fun _ _ h2 => ⟨(h2 6 (by kernel_rfl)).trans rfl, trivial⟩) (by kernel_rfl) (fun _ _ _ _ _ => by kernel_rfl)
  case o1r19n2 => exact ValOp.pure (grown_steady _ 1) [(3, .pointer (some ⟨(w.heap.size + 1), 0, none⟩))] rfl (fun _ _ h2 => ⟨(h2 3 (by kernel_rfl)).trans rfl, trivial⟩) (by kernel_rfl) (fun _ _ _ hg _ => run_read rfl rfl (run_loadVar_row _ _ _ _ _ _ _ (below_at z1 hg) Try.underlying30 rfl (by kernel_rfl)))
  case o2r19n2 => exact ValOp.call (grown_steady _ 2) [(121, .int .u64 VS), (122, .agg #[.int .i64 p, .int .i64 K, .int .i64 bi])] rfl (fun _ h1 _ => ⟨h1 0 121 (by kernel_rfl), h1 1 122 (by kernel_rfl), trivial⟩) (by kernel_rfl) 11 #[.int .u64 VS, .agg #[.int .i64 p, .int .i64 K, .int .i64 bi]] (fun _ => by kernel_rfl) (fun _ w _ => k15 w)
  case o3r19n2 => exact ValOp.pure (grown_steady _ 3) [(2, .pointer (some ⟨w.heap.size, 0, none⟩))] rfl (fun _ _ h2 => ⟨(h2 2 (by kernel_rfl)).trans rfl, trivial⟩) (by kernel_rfl) (fun _ _ _ hg _ => run_read rfl rfl (run_loadVar_row _ _ _ _ _ _ _ (below_at x1 hg) Try.underlying27 rfl (by kernel_rfl)))
  case o4r19n2 => exact ValOp.pure (grown_steady _ 4) [(123, PV), (124, .agg #[.int .i64 kd, .bool true, .int .u64 M, .int .i64 X, .bool qu, .int .u64 LD])] rfl (fun _ h1 _ => ⟨h1 2 123 (by kernel_rfl), h1 3 124 (by kernel_rfl), trivial⟩) (by kernel_rfl) (fun _ _ _ _ _ => run_bin (a := PV) (b := .agg #[.int .i64 kd, .bool true, .int .u64 M, .int .i64 X, .bool qu, .int .u64 LD]) rfl rfl rfl (hNG _) (hNE _))
  intro w2 s2 _ hb2
  replace hb2 : Below _ _ w2 := hb2
  have B2 : Hid (Below w.heap.size w w2) := B1.out.trans (hb2.mono B1.out.size)
  clear hb2
  refine (by assumption : ∀ (a : Act) (w : World), Code.wp Try.prog (Code.cond _ _ _) _ a w → _) _ _ ?_
  cases NE
  · go_wp2
    refine bodyPost_ret (v := .tuple #[.int .u64 VS, .int .i64 0]) (by simp [results, Try.results66, go_sem]) rfl ⟨rfl, B2.out⟩
  · go_wp2
    refine bodyPost_ret (v := .tuple #[.int .u64 0, .int .i64 40]) (by simp [results, Try.results66, go_sem]) rfl ⟨rfl, B2.out⟩
set_option maxHeartbeats 2000000 in
theorem rof_s_load {p : Nat} {bi : Int} (w : World) (h1 : 1 ≤ p) (h2 : p ≤ 52) (_hb0 : 0 ≤ bi) (_hb1 : bi ≤ 1023) (K P P2 M LD : Nat) (X : Int) (ng qu : Bool) (_hK0 : 3 ≤ K) (_hK1 : K ≤ 2047) (hP : IntKind.u64.wrap ((2 : Int) ^ p) = P) (_hP2 : IntKind.u64.wrap ((2 : Int) ^ (p + 1)) = P2) (_hP1 : 1 ≤ P) (_hP3 : P ≤ 4503599627370496)
    
    (c1 : (P : Int) < LD) :
    Calls Try.prog 66 #[.agg #[.int .i64 1, .bool ng, .int .u64 M, .int .i64 X, .bool qu, .int .u64 LD], .agg #[.int .i64 p, .int .i64 K, .int .i64 bi]] w fun e w' => e = .returned (.tuple #[.int .u64 0, .int .i64 40]) ∧ Below w.heap.size w w' := by
  go_enter Try.func66, Try.ntmps66
  go_wp2
  refine bodyPost_ret (v := .tuple #[.int .u64 0, .int .i64 40]) (by simp [results, Try.results66, go_sem]) rfl ⟨rfl, ((Below.refl _ _).alloc (Nat.le_refl _) _).alloc (by simp) _⟩
set_option maxHeartbeats 2000000 in
theorem rof_s_mant {p : Nat} {bi : Int} (w : World) (h1 : 1 ≤ p) (h2 : p ≤ 52) (_hb0 : 0 ≤ bi) (_hb1 : bi ≤ 1023) (K P P2 M LD : Nat) (X : Int) (ng qu : Bool) (_hK0 : 3 ≤ K) (_hK1 : K ≤ 2047) (hP : IntKind.u64.wrap ((2 : Int) ^ p) = P) (hP2 : IntKind.u64.wrap ((2 : Int) ^ (p + 1)) = P2) (_hP1 : 1 ≤ P) (_hP3 : P ≤ 4503599627370496)
    
    (c1 : ¬ (P : Int) < LD) (c2 : (P2 : Int) < M) :
    Calls Try.prog 66 #[.agg #[.int .i64 1, .bool ng, .int .u64 M, .int .i64 X, .bool qu, .int .u64 LD], .agg #[.int .i64 p, .int .i64 K, .int .i64 bi]] w fun e w' => e = .returned (.tuple #[.int .u64 0, .int .i64 40]) ∧ Below w.heap.size w w' := by
  go_enter Try.func66, Try.ntmps66
  go_wp2
  refine bodyPost_ret (v := .tuple #[.int .u64 0, .int .i64 40]) (by simp [results, Try.results66, go_sem]) rfl ⟨rfl, ((Below.refl _ _).alloc (Nat.le_refl _) _).alloc (by simp) _⟩
set_option maxHeartbeats 2000000 in
theorem rof_s_false {p : Nat} {bi : Int} (w : World) (h1 : 1 ≤ p) (h2 : p ≤ 52) (_hb0 : 0 ≤ bi) (_hb1 : bi ≤ 1023) (K P P2 M LD : Nat) (X : Int) (qu : Bool) (_hK0 : 3 ≤ K) (_hK1 : K ≤ 2047) (hP : IntKind.u64.wrap ((2 : Int) ^ p) = P) (hP2 : IntKind.u64.wrap ((2 : Int) ^ (p + 1)) = P2) (_hP1 : 1 ≤ P) (_hP3 : P ≤ 4503599627370496)
    
    (c1 : ¬ (P : Int) < LD) (c2 : ¬ (P2 : Int) < M) (PV : Value) (NE : Bool) (k15 : ∀ w, Calls Try.prog 11 #[.int .u64 M, .agg #[.int .i64 p, .int .i64 K, .int .i64 bi]] w fun e w' => e = .returned PV ∧ Below w.heap.size w w') (hNG : ∀ w, (eqGuard .neq 27 (.tmp 123) (.tmp 124) PV (.agg #[.int .i64 1, .bool false, .int .u64 M, .int .i64 X, .bool qu, .int .u64 LD])).run Try.prog w = .ok () w) (hNE : ∀ w, (binOp .neq 27 PV (.agg #[.int .i64 1, .bool false, .int .u64 M, .int .i64 X, .bool qu, .int .u64 LD])).run Try.prog w = .ok (.bool NE) w) :
    Calls Try.prog 66 #[.agg #[.int .i64 1, .bool false, .int .u64 M, .int .i64 X, .bool qu, .int .u64 LD], .agg #[.int .i64 p, .int .i64 K, .int .i64 bi]] w fun e w' => e = .returned (if NE then .tuple #[.int .u64 0, .int .i64 40] else .tuple #[.int .u64 M, .int .i64 0]) ∧ Below w.heap.size w w' := by
  go_enter Try.func66, Try.ntmps66
  go_wp2_with fail
  refine wp_region_vals (a1 := ?a1r19n3) (grown _) [.int .u64 M, .agg #[.int .i64 p, .int .i64 K, .int .i64 bi], PV, .agg #[.int .i64 1, .bool false, .int .u64 M, .int .i64 X, .bool qu, .int .u64 LD], .bool NE] 127 rfl (by kernel_rfl) (by kernel_rfl) (grown_start _) ⟨?o0r19n3, ?o1r19n3, ?o2r19n3, ?o3r19n3, ?o4r19n3, trivial⟩ ?har19n3 ?hdoner19n3
  case har19n3 => simp [putAll, Act.put]; exact rfl
  case o0r19n3 => exact ValOp.pure (grown_steady _ 0) [(6, .int .u64 M)] rfl (fun _ _ h2 => ⟨(h2 6 (by kernel_rfl)).trans rfl, trivial⟩) (by kernel_rfl) (fun _ _ _ _ _ => by kernel_rfl)
  case o1r19n3 => exact ValOp.pure (grown_steady _ 1) [(3, .pointer (some ⟨(w.heap.size + 1), 0, none⟩))] rfl (fun _ _ h2 => ⟨(h2 3 (by kernel_rfl)).trans rfl, trivial⟩) (by kernel_rfl) (fun _ _ _ hg _ => run_read rfl rfl (run_loadVar_row _ _ _ _ _ _ _ (below_at (last_at _ _ (by simp)) hg) Try.underlying30 rfl (by kernel_rfl)))
  case o2r19n3 => exact ValOp.call (grown_steady _ 2) [(121, .int .u64 M), (122, .agg #[.int .i64 p, .int .i64 K, .int .i64 bi])] rfl (fun _ h1 _ => ⟨h1 0 121 (by kernel_rfl), h1 1 122 (by kernel_rfl), trivial⟩) (by kernel_rfl) 11 #[.int .u64 M, .agg #[.int .i64 p, .int .i64 K, .int .i64 bi]] (fun _ => by kernel_rfl) (fun _ w _ => k15 w)
  case o3r19n3 => exact ValOp.pure (grown_steady _ 3) [(2, .pointer (some ⟨w.heap.size, 0, none⟩))] rfl (fun _ _ h2 => ⟨(h2 2 (by kernel_rfl)).trans rfl, trivial⟩) (by kernel_rfl) (fun _ _ _ hg _ => run_read rfl rfl (run_loadVar_row _ _ _ _ _ _ _ (below_at ((Below.heap_alloc _ _ _ (by simp)).trans (heap_alloc_last _ _)) hg) Try.underlying27 rfl (by kernel_rfl)))
  case o4r19n3 => exact ValOp.pure (grown_steady _ 4) [(123, PV), (124, .agg #[.int .i64 1, .bool false, .int .u64 M, .int .i64 X, .bool qu, .int .u64 LD])] rfl (fun _ h1 _ => ⟨h1 2 123 (by kernel_rfl), h1 3 124 (by kernel_rfl), trivial⟩) (by kernel_rfl) (fun _ _ _ _ _ => run_bin (a := PV) (b := .agg #[.int .i64 1, .bool false, .int .u64 M, .int .i64 X, .bool qu, .int .u64 LD]) rfl rfl rfl (hNG _) (hNE _))
  intro w2 s2 _ hb2
  replace hb2 : Below _ _ w2 := hb2
  have B2 : Hid (Below w.heap.size w w2) := by
    have h : Below w.heap.size _ w2 := hb2.mono (by simp <;> omega)
    exact (((Below.refl _ _).alloc (Nat.le_refl _) _).alloc (by simp) _).trans h
  clear hb2
  refine (by assumption : ∀ (a : Act) (w : World), Code.wp Try.prog (Code.cond _ _ _) _ a w → _) _ _ ?_
  cases NE
  · go_wp2
    refine bodyPost_ret (v := .tuple #[.int .u64 M, .int .i64 0]) (by simp [results, Try.results66, go_sem]) rfl ⟨rfl, B2.out⟩
  · go_wp2
    refine bodyPost_ret (v := .tuple #[.int .u64 0, .int .i64 40]) (by simp [results, Try.results66, go_sem]) rfl ⟨rfl, B2.out⟩
set_option maxHeartbeats 2000000 in
theorem rof_s_true {p : Nat} {bi : Int} (w : World) (h1 : 1 ≤ p) (h2 : p ≤ 52) (_hb0 : 0 ≤ bi) (_hb1 : bi ≤ 1023) (K P P2 M LD : Nat) (X : Int) (qu : Bool) (_hK0 : 3 ≤ K) (_hK1 : K ≤ 2047) (hP : IntKind.u64.wrap ((2 : Int) ^ p) = P) (hP2 : IntKind.u64.wrap ((2 : Int) ^ (p + 1)) = P2) (_hP1 : 1 ≤ P) (_hP3 : P ≤ 4503599627370496)
    
    (S VS : Nat) (hVS : bits .or .u64 (M : Int) S = VS) (k44 : ∀ w, Calls Try.prog 48 #[.agg #[.int .i64 p, .int .i64 K, .int .i64 bi]] w fun e w' => e = .returned (.int .u64 S) ∧ Below w.heap.size w w') (c1 : ¬ (P : Int) < LD) (c2 : ¬ (P2 : Int) < M) (PV : Value) (NE : Bool) (k15 : ∀ w, Calls Try.prog 11 #[.int .u64 VS, .agg #[.int .i64 p, .int .i64 K, .int .i64 bi]] w fun e w' => e = .returned PV ∧ Below w.heap.size w w') (hNG : ∀ w, (eqGuard .neq 27 (.tmp 123) (.tmp 124) PV (.agg #[.int .i64 1, .bool true, .int .u64 M, .int .i64 X, .bool qu, .int .u64 LD])).run Try.prog w = .ok () w) (hNE : ∀ w, (binOp .neq 27 PV (.agg #[.int .i64 1, .bool true, .int .u64 M, .int .i64 X, .bool qu, .int .u64 LD])).run Try.prog w = .ok (.bool NE) w) :
    Calls Try.prog 66 #[.agg #[.int .i64 1, .bool true, .int .u64 M, .int .i64 X, .bool qu, .int .u64 LD], .agg #[.int .i64 p, .int .i64 K, .int .i64 bi]] w fun e w' => e = .returned (if NE then .tuple #[.int .u64 0, .int .i64 40] else .tuple #[.int .u64 VS, .int .i64 0]) ∧ Below w.heap.size w w' := by
  go_enter Try.func66, Try.ntmps66
  go_wp2_with (go_at_call 48; refine (k44 _).mono ?_)
  rintro e w1 rfl bb1
  have x1 : w1.heap[w.heap.size]? = some (.cells #[.int .i64 1, .bool true, .int .u64 M, .int .i64 X, .bool qu, .int .u64 LD] 27 (0, 0)) := (bb1.block _ (by omega)).trans ((Below.heap_alloc _ _ _ (by simp)).trans (heap_alloc_last _ _))
  have z1 : w1.heap[w.heap.size + 1]? = some (.cells #[.int .i64 p, .int .i64 K, .int .i64 bi] 30 (0, 0)) := (bb1.block _ (by omega)).trans (last_at _ _ (by simp))
  have B1 : Hid (Below w.heap.size w w1) := by
    have h : Below w.heap.size _ w1 := bb1.mono (by omega)
    exact (((Below.refl _ _).alloc (Nat.le_refl _) _).alloc (by simp) _).trans h
  clear bb1
  go_wp2_with fail
  refine wp_region_vals (a1 := ?a1r19n4) (grown _) [.int .u64 VS, .agg #[.int .i64 p, .int .i64 K, .int .i64 bi], PV, .agg #[.int .i64 1, .bool true, .int .u64 M, .int .i64 X, .bool qu, .int .u64 LD], .bool NE] 127 rfl (by kernel_rfl) (by kernel_rfl) (grown_start _) ⟨?o0r19n4, ?o1r19n4, ?o2r19n4, ?o3r19n4, ?o4r19n4, trivial⟩ ?har19n4 ?hdoner19n4
  case har19n4 => simp [putAll, Act.put]; exact rfl
  case o0r19n4 => exact ValOp.pure (grown_steady _ 0) [(6, .int .u64 VS)] rfl (fun _ _ h2 => ⟨(h2 6 (by kernel_rfl)).trans rfl, trivial⟩) (by kernel_rfl) (fun _ _ _ _ _ => by kernel_rfl)
  case o1r19n4 => exact ValOp.pure (grown_steady _ 1) [(3, .pointer (some ⟨(w.heap.size + 1), 0, none⟩))] rfl (fun _ _ h2 => ⟨(h2 3 (by kernel_rfl)).trans rfl, trivial⟩) (by kernel_rfl) (fun _ _ _ hg _ => run_read rfl rfl (run_loadVar_row _ _ _ _ _ _ _ (below_at z1 hg) Try.underlying30 rfl (by kernel_rfl)))
  case o2r19n4 => exact ValOp.call (grown_steady _ 2) [(121, .int .u64 VS), (122, .agg #[.int .i64 p, .int .i64 K, .int .i64 bi])] rfl (fun _ h1 _ => ⟨h1 0 121 (by kernel_rfl), h1 1 122 (by kernel_rfl), trivial⟩) (by kernel_rfl) 11 #[.int .u64 VS, .agg #[.int .i64 p, .int .i64 K, .int .i64 bi]] (fun _ => by kernel_rfl) (fun _ w _ => k15 w)
  case o3r19n4 => exact ValOp.pure (grown_steady _ 3) [(2, .pointer (some ⟨w.heap.size, 0, none⟩))] rfl (fun _ _ h2 => ⟨(h2 2 (by kernel_rfl)).trans rfl, trivial⟩) (by kernel_rfl) (fun _ _ _ hg _ => run_read rfl rfl (run_loadVar_row _ _ _ _ _ _ _ (below_at x1 hg) Try.underlying27 rfl (by kernel_rfl)))
  case o4r19n4 => exact ValOp.pure (grown_steady _ 4) [(123, PV), (124, .agg #[.int .i64 1, .bool true, .int .u64 M, .int .i64 X, .bool qu, .int .u64 LD])] rfl (fun _ h1 _ => ⟨h1 2 123 (by kernel_rfl), h1 3 124 (by kernel_rfl), trivial⟩) (by kernel_rfl) (fun _ _ _ _ _ => run_bin (a := PV) (b := .agg #[.int .i64 1, .bool true, .int .u64 M, .int .i64 X, .bool qu, .int .u64 LD]) rfl rfl rfl (hNG _) (hNE _))
  intro w2 s2 _ hb2
  replace hb2 : Below _ _ w2 := hb2
  have B2 : Hid (Below w.heap.size w w2) := B1.out.trans (hb2.mono B1.out.size)
  clear hb2
  refine (by assumption : ∀ (a : Act) (w : World), Code.wp Try.prog (Code.cond _ _ _) _ a w → _) _ _ ?_
  cases NE
  · go_wp2
    refine bodyPost_ret (v := .tuple #[.int .u64 VS, .int .i64 0]) (by simp [results, Try.results66, go_sem]) rfl ⟨rfl, B2.out⟩
  · go_wp2
    refine bodyPost_ret (v := .tuple #[.int .u64 0, .int .i64 40]) (by simp [results, Try.results66, go_sem]) rfl ⟨rfl, B2.out⟩
set_option maxHeartbeats 2000000 in
theorem rof_n_load {p : Nat} {bi : Int} (w : World) (h1 : 1 ≤ p) (h2 : p ≤ 52) (hb0 : 0 ≤ bi) (hb1 : bi ≤ 1023) (K P P2 M LD : Nat) (X : Int) (ng qu : Bool) (hK0 : 3 ≤ K) (hK1 : K ≤ 2047) (hP : IntKind.u64.wrap ((2 : Int) ^ p) = P) (_hP2 : IntKind.u64.wrap ((2 : Int) ^ (p + 1)) = P2) (hP1 : 1 ≤ P) (hP3 : P ≤ 4503599627370496)
    (GG ML V : Nat) (r1 : ¬ X < 1 - bi - p) (r2 : ¬ (K : Int) - bi - p ≤ X) (r3 : (M : Int) / 2 ^ p = 1) (hGG : IntKind.u64.wrap ((X + bi + p) * 2 ^ p) = GG) (hML : bits .and .u64 M ((P : Int) - 1) = ML) (hV : bits .or .u64 GG ML = V) 
    (c1 : (P : Int) < LD) :
    Calls Try.prog 66 #[.agg #[.int .i64 2, .bool ng, .int .u64 M, .int .i64 X, .bool qu, .int .u64 LD], .agg #[.int .i64 p, .int .i64 K, .int .i64 bi]] w fun e w' => e = .returned (.tuple #[.int .u64 0, .int .i64 40]) ∧ Below w.heap.size w w' := by
  go_enter Try.func66, Try.ntmps66
  go_wp2
  refine bodyPost_ret (v := .tuple #[.int .u64 0, .int .i64 40]) (by simp [results, Try.results66, go_sem]) rfl ⟨rfl, ((Below.refl _ _).alloc (Nat.le_refl _) _).alloc (by simp) _⟩
set_option maxHeartbeats 2000000 in
theorem rof_n_mant {p : Nat} {bi : Int} (w : World) (h1 : 1 ≤ p) (h2 : p ≤ 52) (hb0 : 0 ≤ bi) (hb1 : bi ≤ 1023) (K P P2 M LD : Nat) (X : Int) (ng qu : Bool) (hK0 : 3 ≤ K) (hK1 : K ≤ 2047) (hP : IntKind.u64.wrap ((2 : Int) ^ p) = P) (hP2 : IntKind.u64.wrap ((2 : Int) ^ (p + 1)) = P2) (hP1 : 1 ≤ P) (hP3 : P ≤ 4503599627370496)
    (GG ML V : Nat) (r1 : ¬ X < 1 - bi - p) (r2 : ¬ (K : Int) - bi - p ≤ X) (r3 : (M : Int) / 2 ^ p = 1) (hGG : IntKind.u64.wrap ((X + bi + p) * 2 ^ p) = GG) (hML : bits .and .u64 M ((P : Int) - 1) = ML) (hV : bits .or .u64 GG ML = V) 
    (c1 : ¬ (P : Int) < LD) (c2 : (P2 : Int) < M) :
    Calls Try.prog 66 #[.agg #[.int .i64 2, .bool ng, .int .u64 M, .int .i64 X, .bool qu, .int .u64 LD], .agg #[.int .i64 p, .int .i64 K, .int .i64 bi]] w fun e w' => e = .returned (.tuple #[.int .u64 0, .int .i64 40]) ∧ Below w.heap.size w w' := by
  go_enter Try.func66, Try.ntmps66
  go_wp2
  refine bodyPost_ret (v := .tuple #[.int .u64 0, .int .i64 40]) (by simp [results, Try.results66, go_sem]) rfl ⟨rfl, ((Below.refl _ _).alloc (Nat.le_refl _) _).alloc (by simp) _⟩
set_option maxHeartbeats 2000000 in
theorem rof_n_false {p : Nat} {bi : Int} (w : World) (h1 : 1 ≤ p) (h2 : p ≤ 52) (hb0 : 0 ≤ bi) (hb1 : bi ≤ 1023) (K P P2 M LD : Nat) (X : Int) (qu : Bool) (hK0 : 3 ≤ K) (hK1 : K ≤ 2047) (hP : IntKind.u64.wrap ((2 : Int) ^ p) = P) (hP2 : IntKind.u64.wrap ((2 : Int) ^ (p + 1)) = P2) (hP1 : 1 ≤ P) (hP3 : P ≤ 4503599627370496)
    (GG ML V : Nat) (r1 : ¬ X < 1 - bi - p) (r2 : ¬ (K : Int) - bi - p ≤ X) (r3 : (M : Int) / 2 ^ p = 1) (hGG : IntKind.u64.wrap ((X + bi + p) * 2 ^ p) = GG) (hML : bits .and .u64 M ((P : Int) - 1) = ML) (hV : bits .or .u64 GG ML = V) 
    (c1 : ¬ (P : Int) < LD) (c2 : ¬ (P2 : Int) < M) (PV : Value) (NE : Bool) (k15 : ∀ w, Calls Try.prog 11 #[.int .u64 V, .agg #[.int .i64 p, .int .i64 K, .int .i64 bi]] w fun e w' => e = .returned PV ∧ Below w.heap.size w w') (hNG : ∀ w, (eqGuard .neq 27 (.tmp 123) (.tmp 124) PV (.agg #[.int .i64 2, .bool false, .int .u64 M, .int .i64 X, .bool qu, .int .u64 LD])).run Try.prog w = .ok () w) (hNE : ∀ w, (binOp .neq 27 PV (.agg #[.int .i64 2, .bool false, .int .u64 M, .int .i64 X, .bool qu, .int .u64 LD])).run Try.prog w = .ok (.bool NE) w) :
    Calls Try.prog 66 #[.agg #[.int .i64 2, .bool false, .int .u64 M, .int .i64 X, .bool qu, .int .u64 LD], .agg #[.int .i64 p, .int .i64 K, .int .i64 bi]] w fun e w' => e = .returned (if NE then .tuple #[.int .u64 0, .int .i64 40] else .tuple #[.int .u64 V, .int .i64 0]) ∧ Below w.heap.size w w' := by
  go_enter Try.func66, Try.ntmps66
  go_wp2_with fail
  refine wp_region_vals (a1 := ?a1r19n5) (grown _) [.int .u64 V, .agg #[.int .i64 p, .int .i64 K, .int .i64 bi], PV, .agg #[.int .i64 2, .bool false, .int .u64 M, .int .i64 X, .bool qu, .int .u64 LD], .bool NE] 127 rfl (by kernel_rfl) (by kernel_rfl) (grown_start _) ⟨?o0r19n5, ?o1r19n5, ?o2r19n5, ?o3r19n5, ?o4r19n5, trivial⟩ ?har19n5 ?hdoner19n5
  case har19n5 => simp [putAll, Act.put]; exact rfl
  case o0r19n5 => exact ValOp.pure (grown_steady _ 0) [(6, .int .u64 V)] rfl (fun _ _ h2 => ⟨(h2 6 (by kernel_rfl)).trans rfl, trivial⟩) (by kernel_rfl) (fun _ _ _ _ _ => by kernel_rfl)
  case o1r19n5 => exact ValOp.pure (grown_steady _ 1) [(3, .pointer (some ⟨(w.heap.size + 1), 0, none⟩))] rfl (fun _ _ h2 => ⟨(h2 3 (by kernel_rfl)).trans rfl, trivial⟩) (by kernel_rfl) (fun _ _ _ hg _ => run_read rfl rfl (run_loadVar_row _ _ _ _ _ _ _ (below_at (last_at _ _ (by simp)) hg) Try.underlying30 rfl (by kernel_rfl)))
  case o2r19n5 => exact ValOp.call (grown_steady _ 2) [(121, .int .u64 V), (122, .agg #[.int .i64 p, .int .i64 K, .int .i64 bi])] rfl (fun _ h1 _ => ⟨h1 0 121 (by kernel_rfl), h1 1 122 (by kernel_rfl), trivial⟩) (by kernel_rfl) 11 #[.int .u64 V, .agg #[.int .i64 p, .int .i64 K, .int .i64 bi]] (fun _ => by kernel_rfl) (fun _ w _ => k15 w)
  case o3r19n5 => exact ValOp.pure (grown_steady _ 3) [(2, .pointer (some ⟨w.heap.size, 0, none⟩))] rfl (fun _ _ h2 => ⟨(h2 2 (by kernel_rfl)).trans rfl, trivial⟩) (by kernel_rfl) (fun _ _ _ hg _ => run_read rfl rfl (run_loadVar_row _ _ _ _ _ _ _ (below_at ((Below.heap_alloc _ _ _ (by simp)).trans (heap_alloc_last _ _)) hg) Try.underlying27 rfl (by kernel_rfl)))
  case o4r19n5 => exact ValOp.pure (grown_steady _ 4) [(123, PV), (124, .agg #[.int .i64 2, .bool false, .int .u64 M, .int .i64 X, .bool qu, .int .u64 LD])] rfl (fun _ h1 _ => ⟨h1 2 123 (by kernel_rfl), h1 3 124 (by kernel_rfl), trivial⟩) (by kernel_rfl) (fun _ _ _ _ _ => run_bin (a := PV) (b := .agg #[.int .i64 2, .bool false, .int .u64 M, .int .i64 X, .bool qu, .int .u64 LD]) rfl rfl rfl (hNG _) (hNE _))
  intro w2 s2 _ hb2
  replace hb2 : Below _ _ w2 := hb2
  have B2 : Hid (Below w.heap.size w w2) := by
    have h : Below w.heap.size _ w2 := hb2.mono (by simp <;> omega)
    exact (((Below.refl _ _).alloc (Nat.le_refl _) _).alloc (by simp) _).trans h
  clear hb2
  refine (by assumption : ∀ (a : Act) (w : World), Code.wp Try.prog (Code.cond _ _ _) _ a w → _) _ _ ?_
  cases NE
  · go_wp2
    refine bodyPost_ret (v := .tuple #[.int .u64 V, .int .i64 0]) (by simp [results, Try.results66, go_sem]) rfl ⟨rfl, B2.out⟩
  · go_wp2
    refine bodyPost_ret (v := .tuple #[.int .u64 0, .int .i64 40]) (by simp [results, Try.results66, go_sem]) rfl ⟨rfl, B2.out⟩
set_option maxHeartbeats 2000000 in
theorem rof_n_true {p : Nat} {bi : Int} (w : World) (h1 : 1 ≤ p) (h2 : p ≤ 52) (hb0 : 0 ≤ bi) (hb1 : bi ≤ 1023) (K P P2 M LD : Nat) (X : Int) (qu : Bool) (hK0 : 3 ≤ K) (hK1 : K ≤ 2047) (hP : IntKind.u64.wrap ((2 : Int) ^ p) = P) (hP2 : IntKind.u64.wrap ((2 : Int) ^ (p + 1)) = P2) (hP1 : 1 ≤ P) (hP3 : P ≤ 4503599627370496)
    (GG ML V : Nat) (r1 : ¬ X < 1 - bi - p) (r2 : ¬ (K : Int) - bi - p ≤ X) (r3 : (M : Int) / 2 ^ p = 1) (hGG : IntKind.u64.wrap ((X + bi + p) * 2 ^ p) = GG) (hML : bits .and .u64 M ((P : Int) - 1) = ML) (hV : bits .or .u64 GG ML = V) 
    (S VS : Nat) (hVS : bits .or .u64 (V : Int) S = VS) (k44 : ∀ w, Calls Try.prog 48 #[.agg #[.int .i64 p, .int .i64 K, .int .i64 bi]] w fun e w' => e = .returned (.int .u64 S) ∧ Below w.heap.size w w') (c1 : ¬ (P : Int) < LD) (c2 : ¬ (P2 : Int) < M) (PV : Value) (NE : Bool) (k15 : ∀ w, Calls Try.prog 11 #[.int .u64 VS, .agg #[.int .i64 p, .int .i64 K, .int .i64 bi]] w fun e w' => e = .returned PV ∧ Below w.heap.size w w') (hNG : ∀ w, (eqGuard .neq 27 (.tmp 123) (.tmp 124) PV (.agg #[.int .i64 2, .bool true, .int .u64 M, .int .i64 X, .bool qu, .int .u64 LD])).run Try.prog w = .ok () w) (hNE : ∀ w, (binOp .neq 27 PV (.agg #[.int .i64 2, .bool true, .int .u64 M, .int .i64 X, .bool qu, .int .u64 LD])).run Try.prog w = .ok (.bool NE) w) :
    Calls Try.prog 66 #[.agg #[.int .i64 2, .bool true, .int .u64 M, .int .i64 X, .bool qu, .int .u64 LD], .agg #[.int .i64 p, .int .i64 K, .int .i64 bi]] w fun e w' => e = .returned (if NE then .tuple #[.int .u64 0, .int .i64 40] else .tuple #[.int .u64 VS, .int .i64 0]) ∧ Below w.heap.size w w' := by
  go_enter Try.func66, Try.ntmps66
  go_wp2_with (go_at_call 48; refine (k44 _).mono ?_)
  rintro e w1 rfl bb1
  have x1 : w1.heap[w.heap.size]? = some (.cells #[.int .i64 2, .bool true, .int .u64 M, .int .i64 X, .bool qu, .int .u64 LD] 27 (0, 0)) := (bb1.block _ (by omega)).trans ((Below.heap_alloc _ _ _ (by simp)).trans (heap_alloc_last _ _))
  have z1 : w1.heap[w.heap.size + 1]? = some (.cells #[.int .i64 p, .int .i64 K, .int .i64 bi] 30 (0, 0)) := (bb1.block _ (by omega)).trans (last_at _ _ (by simp))
  have B1 : Hid (Below w.heap.size w w1) := by
    have h : Below w.heap.size _ w1 := bb1.mono (by omega)
    exact (((Below.refl _ _).alloc (Nat.le_refl _) _).alloc (by simp) _).trans h
  clear bb1
  go_wp2_with fail
  refine wp_region_vals (a1 := ?a1r19n6) (grown _) [.int .u64 VS, .agg #[.int .i64 p, .int .i64 K, .int .i64 bi], PV, .agg #[.int .i64 2, .bool true, .int .u64 M, .int .i64 X, .bool qu, .int .u64 LD], .bool NE] 127 rfl (by kernel_rfl) (by kernel_rfl) (grown_start _) ⟨?o0r19n6, ?o1r19n6, ?o2r19n6, ?o3r19n6, ?o4r19n6, trivial⟩ ?har19n6 ?hdoner19n6
  case har19n6 => simp [putAll, Act.put]; exact rfl
  case o0r19n6 => exact ValOp.pure (grown_steady _ 0) [(6, .int .u64 VS)] rfl (fun _ _ h2 => ⟨(h2 6 (by kernel_rfl)).trans rfl, trivial⟩) (by kernel_rfl) (fun _ _ _ _ _ => by kernel_rfl)
  case o1r19n6 => exact ValOp.pure (grown_steady _ 1) [(3, .pointer (some ⟨(w.heap.size + 1), 0, none⟩))] rfl (fun _ _ h2 => ⟨(h2 3 (by kernel_rfl)).trans rfl, trivial⟩) (by kernel_rfl) (fun _ _ _ hg _ => run_read rfl rfl (run_loadVar_row _ _ _ _ _ _ _ (below_at z1 hg) Try.underlying30 rfl (by kernel_rfl)))
  case o2r19n6 => exact ValOp.call (grown_steady _ 2) [(121, .int .u64 VS), (122, .agg #[.int .i64 p, .int .i64 K, .int .i64 bi])] rfl (fun _ h1 _ => ⟨h1 0 121 (by kernel_rfl), h1 1 122 (by kernel_rfl), trivial⟩) (by kernel_rfl) 11 #[.int .u64 VS, .agg #[.int .i64 p, .int .i64 K, .int .i64 bi]] (fun _ => by kernel_rfl) (fun _ w _ => k15 w)
  case o3r19n6 => exact ValOp.pure (grown_steady _ 3) [(2, .pointer (some ⟨w.heap.size, 0, none⟩))] rfl (fun _ _ h2 => ⟨(h2 2 (by kernel_rfl)).trans rfl, trivial⟩) (by kernel_rfl) (fun _ _ _ hg _ => run_read rfl rfl (run_loadVar_row _ _ _ _ _ _ _ (below_at x1 hg) Try.underlying27 rfl (by kernel_rfl)))
  case o4r19n6 => exact ValOp.pure (grown_steady _ 4) [(123, PV), (124, .agg #[.int .i64 2, .bool true, .int .u64 M, .int .i64 X, .bool qu, .int .u64 LD])] rfl (fun _ h1 _ => ⟨h1 2 123 (by kernel_rfl), h1 3 124 (by kernel_rfl), trivial⟩) (by kernel_rfl) (fun _ _ _ _ _ => run_bin (a := PV) (b := .agg #[.int .i64 2, .bool true, .int .u64 M, .int .i64 X, .bool qu, .int .u64 LD]) rfl rfl rfl (hNG _) (hNE _))
  intro w2 s2 _ hb2
  replace hb2 : Below _ _ w2 := hb2
  have B2 : Hid (Below w.heap.size w w2) := B1.out.trans (hb2.mono B1.out.size)
  clear hb2
  refine (by assumption : ∀ (a : Act) (w : World), Code.wp Try.prog (Code.cond _ _ _) _ a w → _) _ _ ?_
  cases NE
  · go_wp2
    refine bodyPost_ret (v := .tuple #[.int .u64 VS, .int .i64 0]) (by simp [results, Try.results66, go_sem]) rfl ⟨rfl, B2.out⟩
  · go_wp2
    refine bodyPost_ret (v := .tuple #[.int .u64 0, .int .i64 40]) (by simp [results, Try.results66, go_sem]) rfl ⟨rfl, B2.out⟩
set_option maxHeartbeats 2000000 in
theorem rof_n_low {p : Nat} {bi : Int} (w : World) (h1 : 1 ≤ p) (h2 : p ≤ 52) (hb0 : 0 ≤ bi) (hb1 : bi ≤ 1023) (K P P2 M LD : Nat) (X : Int) (ng qu : Bool) (_hK0 : 3 ≤ K) (_hK1 : K ≤ 2047) (_hP : IntKind.u64.wrap ((2 : Int) ^ p) = P) (_hP2 : IntKind.u64.wrap ((2 : Int) ^ (p + 1)) = P2) (_hP1 : 1 ≤ P) (_hP3 : P ≤ 4503599627370496)
    
    (r1 : X < 1 - bi - p) :
    Calls Try.prog 66 #[.agg #[.int .i64 2, .bool ng, .int .u64 M, .int .i64 X, .bool qu, .int .u64 LD], .agg #[.int .i64 p, .int .i64 K, .int .i64 bi]] w fun e w' => e = .returned (.tuple #[.int .u64 0, .int .i64 40]) ∧ Below w.heap.size w w' := by
  go_enter Try.func66, Try.ntmps66
  go_wp2
  refine bodyPost_ret (v := .tuple #[.int .u64 0, .int .i64 40]) (by simp [results, Try.results66, go_sem]) rfl ⟨rfl, ((Below.refl _ _).alloc (Nat.le_refl _) _).alloc (by simp) _⟩
set_option maxHeartbeats 2000000 in
theorem rof_n_high {p : Nat} {bi : Int} (w : World) (h1 : 1 ≤ p) (h2 : p ≤ 52) (hb0 : 0 ≤ bi) (hb1 : bi ≤ 1023) (K P P2 M LD : Nat) (X : Int) (ng qu : Bool) (hK0 : 3 ≤ K) (hK1 : K ≤ 2047) (_hP : IntKind.u64.wrap ((2 : Int) ^ p) = P) (_hP2 : IntKind.u64.wrap ((2 : Int) ^ (p + 1)) = P2) (_hP1 : 1 ≤ P) (_hP3 : P ≤ 4503599627370496)
    
    (r1 : ¬ X < 1 - bi - p) (r2 : (K : Int) - bi - p ≤ X) :
    Calls Try.prog 66 #[.agg #[.int .i64 2, .bool ng, .int .u64 M, .int .i64 X, .bool qu, .int .u64 LD], .agg #[.int .i64 p, .int .i64 K, .int .i64 bi]] w fun e w' => e = .returned (.tuple #[.int .u64 0, .int .i64 40]) ∧ Below w.heap.size w w' := by
  go_enter Try.func66, Try.ntmps66
  go_wp2
  refine bodyPost_ret (v := .tuple #[.int .u64 0, .int .i64 40]) (by simp [results, Try.results66, go_sem]) rfl ⟨rfl, ((Below.refl _ _).alloc (Nat.le_refl _) _).alloc (by simp) _⟩
set_option maxHeartbeats 2000000 in
theorem rof_n_bits {p : Nat} {bi : Int} (w : World) (h1 : 1 ≤ p) (h2 : p ≤ 52) (hb0 : 0 ≤ bi) (hb1 : bi ≤ 1023) (K P P2 M LD : Nat) (X : Int) (ng qu : Bool) (hK0 : 3 ≤ K) (hK1 : K ≤ 2047) (_hP : IntKind.u64.wrap ((2 : Int) ^ p) = P) (_hP2 : IntKind.u64.wrap ((2 : Int) ^ (p + 1)) = P2) (_hP1 : 1 ≤ P) (_hP3 : P ≤ 4503599627370496)
    
    (r1 : ¬ X < 1 - bi - p) (r2 : ¬ (K : Int) - bi - p ≤ X) (r3 : ((M : Int) / 2 ^ p != 1) = true) :
    Calls Try.prog 66 #[.agg #[.int .i64 2, .bool ng, .int .u64 M, .int .i64 X, .bool qu, .int .u64 LD], .agg #[.int .i64 p, .int .i64 K, .int .i64 bi]] w fun e w' => e = .returned (.tuple #[.int .u64 0, .int .i64 40]) ∧ Below w.heap.size w w' := by
  go_enter Try.func66, Try.ntmps66
  go_wp2
  refine bodyPost_ret (v := .tuple #[.int .u64 0, .int .i64 40]) (by simp [results, Try.results66, go_sem]) rfl ⟨rfl, ((Below.refl _ _).alloc (Nat.le_refl _) _).alloc (by simp) _⟩
set_option maxHeartbeats 2000000 in
theorem rof_i_load {p : Nat} {bi : Int} (w : World) (h1 : 1 ≤ p) (h2 : p ≤ 52) (_hb0 : 0 ≤ bi) (_hb1 : bi ≤ 1023) (K P P2 M LD : Nat) (X : Int) (ng qu : Bool) (hK0 : 3 ≤ K) (hK1 : K ≤ 2047) (hP : IntKind.u64.wrap ((2 : Int) ^ p) = P) (_hP2 : IntKind.u64.wrap ((2 : Int) ^ (p + 1)) = P2) (_hP1 : 1 ≤ P) (_hP3 : P ≤ 4503599627370496)
    (V : Nat) (hV : IntKind.u64.wrap ((K : Int) * 2 ^ p) = V) 
    (c1 : (P : Int) < LD) :
    Calls Try.prog 66 #[.agg #[.int .i64 3, .bool ng, .int .u64 M, .int .i64 X, .bool qu, .int .u64 LD], .agg #[.int .i64 p, .int .i64 K, .int .i64 bi]] w fun e w' => e = .returned (.tuple #[.int .u64 0, .int .i64 40]) ∧ Below w.heap.size w w' := by
  go_enter Try.func66, Try.ntmps66
  go_wp2
  refine bodyPost_ret (v := .tuple #[.int .u64 0, .int .i64 40]) (by simp [results, Try.results66, go_sem]) rfl ⟨rfl, ((Below.refl _ _).alloc (Nat.le_refl _) _).alloc (by simp) _⟩
set_option maxHeartbeats 2000000 in
theorem rof_i_mant {p : Nat} {bi : Int} (w : World) (h1 : 1 ≤ p) (h2 : p ≤ 52) (_hb0 : 0 ≤ bi) (_hb1 : bi ≤ 1023) (K P P2 M LD : Nat) (X : Int) (ng qu : Bool) (hK0 : 3 ≤ K) (hK1 : K ≤ 2047) (hP : IntKind.u64.wrap ((2 : Int) ^ p) = P) (hP2 : IntKind.u64.wrap ((2 : Int) ^ (p + 1)) = P2) (_hP1 : 1 ≤ P) (_hP3 : P ≤ 4503599627370496)
    (V : Nat) (hV : IntKind.u64.wrap ((K : Int) * 2 ^ p) = V) 
    (c1 : ¬ (P : Int) < LD) (c2 : (P2 : Int) < M) :
    Calls Try.prog 66 #[.agg #[.int .i64 3, .bool ng, .int .u64 M, .int .i64 X, .bool qu, .int .u64 LD], .agg #[.int .i64 p, .int .i64 K, .int .i64 bi]] w fun e w' => e = .returned (.tuple #[.int .u64 0, .int .i64 40]) ∧ Below w.heap.size w w' := by
  go_enter Try.func66, Try.ntmps66
  go_wp2
  refine bodyPost_ret (v := .tuple #[.int .u64 0, .int .i64 40]) (by simp [results, Try.results66, go_sem]) rfl ⟨rfl, ((Below.refl _ _).alloc (Nat.le_refl _) _).alloc (by simp) _⟩
set_option maxHeartbeats 2000000 in
theorem rof_i_false {p : Nat} {bi : Int} (w : World) (h1 : 1 ≤ p) (h2 : p ≤ 52) (_hb0 : 0 ≤ bi) (_hb1 : bi ≤ 1023) (K P P2 M LD : Nat) (X : Int) (qu : Bool) (hK0 : 3 ≤ K) (hK1 : K ≤ 2047) (hP : IntKind.u64.wrap ((2 : Int) ^ p) = P) (hP2 : IntKind.u64.wrap ((2 : Int) ^ (p + 1)) = P2) (_hP1 : 1 ≤ P) (_hP3 : P ≤ 4503599627370496)
    (V : Nat) (hV : IntKind.u64.wrap ((K : Int) * 2 ^ p) = V) 
    (c1 : ¬ (P : Int) < LD) (c2 : ¬ (P2 : Int) < M) (PV : Value) (NE : Bool) (k15 : ∀ w, Calls Try.prog 11 #[.int .u64 V, .agg #[.int .i64 p, .int .i64 K, .int .i64 bi]] w fun e w' => e = .returned PV ∧ Below w.heap.size w w') (hNG : ∀ w, (eqGuard .neq 27 (.tmp 123) (.tmp 124) PV (.agg #[.int .i64 3, .bool false, .int .u64 M, .int .i64 X, .bool qu, .int .u64 LD])).run Try.prog w = .ok () w) (hNE : ∀ w, (binOp .neq 27 PV (.agg #[.int .i64 3, .bool false, .int .u64 M, .int .i64 X, .bool qu, .int .u64 LD])).run Try.prog w = .ok (.bool NE) w) :
    Calls Try.prog 66 #[.agg #[.int .i64 3, .bool false, .int .u64 M, .int .i64 X, .bool qu, .int .u64 LD], .agg #[.int .i64 p, .int .i64 K, .int .i64 bi]] w fun e w' => e = .returned (if NE then .tuple #[.int .u64 0, .int .i64 40] else .tuple #[.int .u64 V, .int .i64 0]) ∧ Below w.heap.size w w' := by
  go_enter Try.func66, Try.ntmps66
  go_wp2_with fail
  refine wp_region_vals (a1 := ?a1r19n7) (grown _) [.int .u64 V, .agg #[.int .i64 p, .int .i64 K, .int .i64 bi], PV, .agg #[.int .i64 3, .bool false, .int .u64 M, .int .i64 X, .bool qu, .int .u64 LD], .bool NE] 127 rfl (by kernel_rfl) (by kernel_rfl) (grown_start _) ⟨?o0r19n7, ?o1r19n7, ?o2r19n7, ?o3r19n7, ?o4r19n7, trivial⟩ ?har19n7 ?hdoner19n7
  case har19n7 => simp [putAll, Act.put]; exact rfl
  case o0r19n7 => exact ValOp.pure (grown_steady _ 0) [(6, .int .u64 V)] rfl (fun _ _ h2 => ⟨(h2 6 (by kernel_rfl)).trans rfl, trivial⟩) (by kernel_rfl) (fun _ _ _ _ _ => by kernel_rfl)
  case o1r19n7 => exact ValOp.pure (grown_steady _ 1) [(3, .pointer (some ⟨(w.heap.size + 1), 0, none⟩))] rfl (fun _ _ h2 => ⟨(h2 3 (by kernel_rfl)).trans rfl, trivial⟩) (by kernel_rfl) (fun _ _ _ hg _ => run_read rfl rfl (run_loadVar_row _ _ _ _ _ _ _ (below_at (last_at _ _ (by simp)) hg) Try.underlying30 rfl (by kernel_rfl)))
  case o2r19n7 => exact ValOp.call (grown_steady _ 2) [(121, .int .u64 V), (122, .agg #[.int .i64 p, .int .i64 K, .int .i64 bi])] rfl (fun _ h1 _ => ⟨h1 0 121 (by kernel_rfl), h1 1 122 (by kernel_rfl), trivial⟩) (by kernel_rfl) 11 #[.int .u64 V, .agg #[.int .i64 p, .int .i64 K, .int .i64 bi]] (fun _ => by kernel_rfl) (fun _ w _ => k15 w)
  case o3r19n7 => exact ValOp.pure (grown_steady _ 3) [(2, .pointer (some ⟨w.heap.size, 0, none⟩))] rfl (fun _ _ h2 => ⟨(h2 2 (by kernel_rfl)).trans rfl, trivial⟩) (by kernel_rfl) (fun _ _ _ hg _ => run_read rfl rfl (run_loadVar_row _ _ _ _ _ _ _ (below_at ((Below.heap_alloc _ _ _ (by simp)).trans (heap_alloc_last _ _)) hg) Try.underlying27 rfl (by kernel_rfl)))
  case o4r19n7 => exact ValOp.pure (grown_steady _ 4) [(123, PV), (124, .agg #[.int .i64 3, .bool false, .int .u64 M, .int .i64 X, .bool qu, .int .u64 LD])] rfl (fun _ h1 _ => ⟨h1 2 123 (by kernel_rfl), h1 3 124 (by kernel_rfl), trivial⟩) (by kernel_rfl) (fun _ _ _ _ _ => run_bin (a := PV) (b := .agg #[.int .i64 3, .bool false, .int .u64 M, .int .i64 X, .bool qu, .int .u64 LD]) rfl rfl rfl (hNG _) (hNE _))
  intro w2 s2 _ hb2
  replace hb2 : Below _ _ w2 := hb2
  have B2 : Hid (Below w.heap.size w w2) := by
    have h : Below w.heap.size _ w2 := hb2.mono (by simp <;> omega)
    exact (((Below.refl _ _).alloc (Nat.le_refl _) _).alloc (by simp) _).trans h
  clear hb2
  refine (by assumption : ∀ (a : Act) (w : World), Code.wp Try.prog (Code.cond _ _ _) _ a w → _) _ _ ?_
  cases NE
  · go_wp2
    refine bodyPost_ret (v := .tuple #[.int .u64 V, .int .i64 0]) (by simp [results, Try.results66, go_sem]) rfl ⟨rfl, B2.out⟩
  · go_wp2
    refine bodyPost_ret (v := .tuple #[.int .u64 0, .int .i64 40]) (by simp [results, Try.results66, go_sem]) rfl ⟨rfl, B2.out⟩
set_option maxHeartbeats 2000000 in
theorem rof_i_true {p : Nat} {bi : Int} (w : World) (h1 : 1 ≤ p) (h2 : p ≤ 52) (_hb0 : 0 ≤ bi) (_hb1 : bi ≤ 1023) (K P P2 M LD : Nat) (X : Int) (qu : Bool) (hK0 : 3 ≤ K) (hK1 : K ≤ 2047) (hP : IntKind.u64.wrap ((2 : Int) ^ p) = P) (hP2 : IntKind.u64.wrap ((2 : Int) ^ (p + 1)) = P2) (_hP1 : 1 ≤ P) (_hP3 : P ≤ 4503599627370496)
    (V : Nat) (hV : IntKind.u64.wrap ((K : Int) * 2 ^ p) = V) 
    (S VS : Nat) (hVS : bits .or .u64 (V : Int) S = VS) (k44 : ∀ w, Calls Try.prog 48 #[.agg #[.int .i64 p, .int .i64 K, .int .i64 bi]] w fun e w' => e = .returned (.int .u64 S) ∧ Below w.heap.size w w') (c1 : ¬ (P : Int) < LD) (c2 : ¬ (P2 : Int) < M) (PV : Value) (NE : Bool) (k15 : ∀ w, Calls Try.prog 11 #[.int .u64 VS, .agg #[.int .i64 p, .int .i64 K, .int .i64 bi]] w fun e w' => e = .returned PV ∧ Below w.heap.size w w') (hNG : ∀ w, (eqGuard .neq 27 (.tmp 123) (.tmp 124) PV (.agg #[.int .i64 3, .bool true, .int .u64 M, .int .i64 X, .bool qu, .int .u64 LD])).run Try.prog w = .ok () w) (hNE : ∀ w, (binOp .neq 27 PV (.agg #[.int .i64 3, .bool true, .int .u64 M, .int .i64 X, .bool qu, .int .u64 LD])).run Try.prog w = .ok (.bool NE) w) :
    Calls Try.prog 66 #[.agg #[.int .i64 3, .bool true, .int .u64 M, .int .i64 X, .bool qu, .int .u64 LD], .agg #[.int .i64 p, .int .i64 K, .int .i64 bi]] w fun e w' => e = .returned (if NE then .tuple #[.int .u64 0, .int .i64 40] else .tuple #[.int .u64 VS, .int .i64 0]) ∧ Below w.heap.size w w' := by
  go_enter Try.func66, Try.ntmps66
  go_wp2_with (go_at_call 48; refine (k44 _).mono ?_)
  rintro e w1 rfl bb1
  have x1 : w1.heap[w.heap.size]? = some (.cells #[.int .i64 3, .bool true, .int .u64 M, .int .i64 X, .bool qu, .int .u64 LD] 27 (0, 0)) := (bb1.block _ (by omega)).trans ((Below.heap_alloc _ _ _ (by simp)).trans (heap_alloc_last _ _))
  have z1 : w1.heap[w.heap.size + 1]? = some (.cells #[.int .i64 p, .int .i64 K, .int .i64 bi] 30 (0, 0)) := (bb1.block _ (by omega)).trans (last_at _ _ (by simp))
  have B1 : Hid (Below w.heap.size w w1) := by
    have h : Below w.heap.size _ w1 := bb1.mono (by omega)
    exact (((Below.refl _ _).alloc (Nat.le_refl _) _).alloc (by simp) _).trans h
  clear bb1
  go_wp2_with fail
  refine wp_region_vals (a1 := ?a1r19n8) (grown _) [.int .u64 VS, .agg #[.int .i64 p, .int .i64 K, .int .i64 bi], PV, .agg #[.int .i64 3, .bool true, .int .u64 M, .int .i64 X, .bool qu, .int .u64 LD], .bool NE] 127 rfl (by kernel_rfl) (by kernel_rfl) (grown_start _) ⟨?o0r19n8, ?o1r19n8, ?o2r19n8, ?o3r19n8, ?o4r19n8, trivial⟩ ?har19n8 ?hdoner19n8
  case har19n8 => simp [putAll, Act.put]; exact rfl
  case o0r19n8 => exact ValOp.pure (grown_steady _ 0) [(6, .int .u64 VS)] rfl (fun _ _ h2 => ⟨(h2 6 (by kernel_rfl)).trans rfl, trivial⟩) (by kernel_rfl) (fun _ _ _ _ _ => by kernel_rfl)
  case o1r19n8 => exact ValOp.pure (grown_steady _ 1) [(3, .pointer (some ⟨(w.heap.size + 1), 0, none⟩))] rfl (fun _ _ h2 => ⟨(h2 3 (by kernel_rfl)).trans rfl, trivial⟩) (by kernel_rfl) (fun _ _ _ hg _ => run_read rfl rfl (run_loadVar_row _ _ _ _ _ _ _ (below_at z1 hg) Try.underlying30 rfl (by kernel_rfl)))
  case o2r19n8 => exact ValOp.call (grown_steady _ 2) [(121, .int .u64 VS), (122, .agg #[.int .i64 p, .int .i64 K, .int .i64 bi])] rfl (fun _ h1 _ => ⟨h1 0 121 (by kernel_rfl), h1 1 122 (by kernel_rfl), trivial⟩) (by kernel_rfl) 11 #[.int .u64 VS, .agg #[.int .i64 p, .int .i64 K, .int .i64 bi]] (fun _ => by kernel_rfl) (fun _ w _ => k15 w)
  case o3r19n8 => exact ValOp.pure (grown_steady _ 3) [(2, .pointer (some ⟨w.heap.size, 0, none⟩))] rfl (fun _ _ h2 => ⟨(h2 2 (by kernel_rfl)).trans rfl, trivial⟩) (by kernel_rfl) (fun _ _ _ hg _ => run_read rfl rfl (run_loadVar_row _ _ _ _ _ _ _ (below_at x1 hg) Try.underlying27 rfl (by kernel_rfl)))
  case o4r19n8 => exact ValOp.pure (grown_steady _ 4) [(123, PV), (124, .agg #[.int .i64 3, .bool true, .int .u64 M, .int .i64 X, .bool qu, .int .u64 LD])] rfl (fun _ h1 _ => ⟨h1 2 123 (by kernel_rfl), h1 3 124 (by kernel_rfl), trivial⟩) (by kernel_rfl) (fun _ _ _ _ _ => run_bin (a := PV) (b := .agg #[.int .i64 3, .bool true, .int .u64 M, .int .i64 X, .bool qu, .int .u64 LD]) rfl rfl rfl (hNG _) (hNE _))
  intro w2 s2 _ hb2
  replace hb2 : Below _ _ w2 := hb2
  have B2 : Hid (Below w.heap.size w w2) := B1.out.trans (hb2.mono B1.out.size)
  clear hb2
  refine (by assumption : ∀ (a : Act) (w : World), Code.wp Try.prog (Code.cond _ _ _) _ a w → _) _ _ ?_
  cases NE
  · go_wp2
    refine bodyPost_ret (v := .tuple #[.int .u64 VS, .int .i64 0]) (by simp [results, Try.results66, go_sem]) rfl ⟨rfl, B2.out⟩
  · go_wp2
    refine bodyPost_ret (v := .tuple #[.int .u64 0, .int .i64 40]) (by simp [results, Try.results66, go_sem]) rfl ⟨rfl, B2.out⟩
set_option maxHeartbeats 2000000 in
theorem rof_q_load {p : Nat} {bi : Int} (w : World) (h1 : 1 ≤ p) (h2 : p ≤ 52) (_hb0 : 0 ≤ bi) (_hb1 : bi ≤ 1023) (K P P2 M LD : Nat) (X : Int) (ng : Bool) (hK0 : 3 ≤ K) (hK1 : K ≤ 2047) (hP : IntKind.u64.wrap ((2 : Int) ^ p) = P) (_hP2 : IntKind.u64.wrap ((2 : Int) ^ (p + 1)) = P2) (_hP1 : 1 ≤ P) (_hP3 : P ≤ 4503599627370496)
    (INF V4 Q V : Nat) (hI : IntKind.u64.wrap ((K : Int) * 2 ^ p) = INF) (hV4 : bits .or .u64 INF LD = V4) (hQ : IntKind.u64.wrap ((2 : Int) ^ (p - 1)) = Q) (hV : bits .or .u64 V4 Q = V) 
    (c1 : (P : Int) < LD) :
    Calls Try.prog 66 #[.agg #[.int .i64 4, .bool ng, .int .u64 M, .int .i64 X, .bool true, .int .u64 LD], .agg #[.int .i64 p, .int .i64 K, .int .i64 bi]] w fun e w' => e = .returned (.tuple #[.int .u64 0, .int .i64 40]) ∧ Below w.heap.size w w' := by
  go_enter Try.func66, Try.ntmps66
  go_wp2
  refine bodyPost_ret (v := .tuple #[.int .u64 0, .int .i64 40]) (by simp [results, Try.results66, go_sem]) rfl ⟨rfl, ((Below.refl _ _).alloc (Nat.le_refl _) _).alloc (by simp) _⟩
set_option maxHeartbeats 2000000 in
theorem rof_q_mant {p : Nat} {bi : Int} (w : World) (h1 : 1 ≤ p) (h2 : p ≤ 52) (_hb0 : 0 ≤ bi) (_hb1 : bi ≤ 1023) (K P P2 M LD : Nat) (X : Int) (ng : Bool) (hK0 : 3 ≤ K) (hK1 : K ≤ 2047) (hP : IntKind.u64.wrap ((2 : Int) ^ p) = P) (hP2 : IntKind.u64.wrap ((2 : Int) ^ (p + 1)) = P2) (_hP1 : 1 ≤ P) (_hP3 : P ≤ 4503599627370496)
    (INF V4 Q V : Nat) (hI : IntKind.u64.wrap ((K : Int) * 2 ^ p) = INF) (hV4 : bits .or .u64 INF LD = V4) (hQ : IntKind.u64.wrap ((2 : Int) ^ (p - 1)) = Q) (hV : bits .or .u64 V4 Q = V) 
    (c1 : ¬ (P : Int) < LD) (c2 : (P2 : Int) < M) :
    Calls Try.prog 66 #[.agg #[.int .i64 4, .bool ng, .int .u64 M, .int .i64 X, .bool true, .int .u64 LD], .agg #[.int .i64 p, .int .i64 K, .int .i64 bi]] w fun e w' => e = .returned (.tuple #[.int .u64 0, .int .i64 40]) ∧ Below w.heap.size w w' := by
  go_enter Try.func66, Try.ntmps66
  go_wp2
  refine bodyPost_ret (v := .tuple #[.int .u64 0, .int .i64 40]) (by simp [results, Try.results66, go_sem]) rfl ⟨rfl, ((Below.refl _ _).alloc (Nat.le_refl _) _).alloc (by simp) _⟩
set_option maxHeartbeats 2000000 in
theorem rof_q_false {p : Nat} {bi : Int} (w : World) (h1 : 1 ≤ p) (h2 : p ≤ 52) (_hb0 : 0 ≤ bi) (_hb1 : bi ≤ 1023) (K P P2 M LD : Nat) (X : Int) (hK0 : 3 ≤ K) (hK1 : K ≤ 2047) (hP : IntKind.u64.wrap ((2 : Int) ^ p) = P) (hP2 : IntKind.u64.wrap ((2 : Int) ^ (p + 1)) = P2) (_hP1 : 1 ≤ P) (_hP3 : P ≤ 4503599627370496)
    (INF V4 Q V : Nat) (hI : IntKind.u64.wrap ((K : Int) * 2 ^ p) = INF) (hV4 : bits .or .u64 INF LD = V4) (hQ : IntKind.u64.wrap ((2 : Int) ^ (p - 1)) = Q) (hV : bits .or .u64 V4 Q = V) 
    (c1 : ¬ (P : Int) < LD) (c2 : ¬ (P2 : Int) < M) (PV : Value) (NE : Bool) (k15 : ∀ w, Calls Try.prog 11 #[.int .u64 V, .agg #[.int .i64 p, .int .i64 K, .int .i64 bi]] w fun e w' => e = .returned PV ∧ Below w.heap.size w w') (hNG : ∀ w, (eqGuard .neq 27 (.tmp 123) (.tmp 124) PV (.agg #[.int .i64 4, .bool false, .int .u64 M, .int .i64 X, .bool true, .int .u64 LD])).run Try.prog w = .ok () w) (hNE : ∀ w, (binOp .neq 27 PV (.agg #[.int .i64 4, .bool false, .int .u64 M, .int .i64 X, .bool true, .int .u64 LD])).run Try.prog w = .ok (.bool NE) w) :
    Calls Try.prog 66 #[.agg #[.int .i64 4, .bool false, .int .u64 M, .int .i64 X, .bool true, .int .u64 LD], .agg #[.int .i64 p, .int .i64 K, .int .i64 bi]] w fun e w' => e = .returned (if NE then .tuple #[.int .u64 0, .int .i64 40] else .tuple #[.int .u64 V, .int .i64 0]) ∧ Below w.heap.size w w' := by
  go_enter Try.func66, Try.ntmps66
  go_wp2_with fail
  refine wp_region_vals (a1 := ?a1r19n9) (grown _) [.int .u64 V, .agg #[.int .i64 p, .int .i64 K, .int .i64 bi], PV, .agg #[.int .i64 4, .bool false, .int .u64 M, .int .i64 X, .bool true, .int .u64 LD], .bool NE] 127 rfl (by kernel_rfl) (by kernel_rfl) (grown_start _) ⟨?o0r19n9, ?o1r19n9, ?o2r19n9, ?o3r19n9, ?o4r19n9, trivial⟩ ?har19n9 ?hdoner19n9
  case har19n9 => simp [putAll, Act.put]; exact rfl
  case o0r19n9 => exact ValOp.pure (grown_steady _ 0) [(6, .int .u64 V)] rfl (fun _ _ h2 => ⟨(h2 6 (by kernel_rfl)).trans rfl, trivial⟩) (by kernel_rfl) (fun _ _ _ _ _ => by kernel_rfl)
  case o1r19n9 => exact ValOp.pure (grown_steady _ 1) [(3, .pointer (some ⟨(w.heap.size + 1), 0, none⟩))] rfl (fun _ _ h2 => ⟨(h2 3 (by kernel_rfl)).trans rfl, trivial⟩) (by kernel_rfl) (fun _ _ _ hg _ => run_read rfl rfl (run_loadVar_row _ _ _ _ _ _ _ (below_at (last_at _ _ (by simp)) hg) Try.underlying30 rfl (by kernel_rfl)))
  case o2r19n9 => exact ValOp.call (grown_steady _ 2) [(121, .int .u64 V), (122, .agg #[.int .i64 p, .int .i64 K, .int .i64 bi])] rfl (fun _ h1 _ => ⟨h1 0 121 (by kernel_rfl), h1 1 122 (by kernel_rfl), trivial⟩) (by kernel_rfl) 11 #[.int .u64 V, .agg #[.int .i64 p, .int .i64 K, .int .i64 bi]] (fun _ => by kernel_rfl) (fun _ w _ => k15 w)
  case o3r19n9 => exact ValOp.pure (grown_steady _ 3) [(2, .pointer (some ⟨w.heap.size, 0, none⟩))] rfl (fun _ _ h2 => ⟨(h2 2 (by kernel_rfl)).trans rfl, trivial⟩) (by kernel_rfl) (fun _ _ _ hg _ => run_read rfl rfl (run_loadVar_row _ _ _ _ _ _ _ (below_at ((Below.heap_alloc _ _ _ (by simp)).trans (heap_alloc_last _ _)) hg) Try.underlying27 rfl (by kernel_rfl)))
  case o4r19n9 => exact ValOp.pure (grown_steady _ 4) [(123, PV), (124, .agg #[.int .i64 4, .bool false, .int .u64 M, .int .i64 X, .bool true, .int .u64 LD])] rfl (fun _ h1 _ => ⟨h1 2 123 (by kernel_rfl), h1 3 124 (by kernel_rfl), trivial⟩) (by kernel_rfl) (fun _ _ _ _ _ => run_bin (a := PV) (b := .agg #[.int .i64 4, .bool false, .int .u64 M, .int .i64 X, .bool true, .int .u64 LD]) rfl rfl rfl (hNG _) (hNE _))
  intro w2 s2 _ hb2
  replace hb2 : Below _ _ w2 := hb2
  have B2 : Hid (Below w.heap.size w w2) := by
    have h : Below w.heap.size _ w2 := hb2.mono (by simp <;> omega)
    exact (((Below.refl _ _).alloc (Nat.le_refl _) _).alloc (by simp) _).trans h
  clear hb2
  refine (by assumption : ∀ (a : Act) (w : World), Code.wp Try.prog (Code.cond _ _ _) _ a w → _) _ _ ?_
  cases NE
  · go_wp2
    refine bodyPost_ret (v := .tuple #[.int .u64 V, .int .i64 0]) (by simp [results, Try.results66, go_sem]) rfl ⟨rfl, B2.out⟩
  · go_wp2
    refine bodyPost_ret (v := .tuple #[.int .u64 0, .int .i64 40]) (by simp [results, Try.results66, go_sem]) rfl ⟨rfl, B2.out⟩
set_option maxHeartbeats 2000000 in
theorem rof_q_true {p : Nat} {bi : Int} (w : World) (h1 : 1 ≤ p) (h2 : p ≤ 52) (_hb0 : 0 ≤ bi) (_hb1 : bi ≤ 1023) (K P P2 M LD : Nat) (X : Int) (hK0 : 3 ≤ K) (hK1 : K ≤ 2047) (hP : IntKind.u64.wrap ((2 : Int) ^ p) = P) (hP2 : IntKind.u64.wrap ((2 : Int) ^ (p + 1)) = P2) (_hP1 : 1 ≤ P) (_hP3 : P ≤ 4503599627370496)
    (INF V4 Q V : Nat) (hI : IntKind.u64.wrap ((K : Int) * 2 ^ p) = INF) (hV4 : bits .or .u64 INF LD = V4) (hQ : IntKind.u64.wrap ((2 : Int) ^ (p - 1)) = Q) (hV : bits .or .u64 V4 Q = V) 
    (S VS : Nat) (hVS : bits .or .u64 (V : Int) S = VS) (k44 : ∀ w, Calls Try.prog 48 #[.agg #[.int .i64 p, .int .i64 K, .int .i64 bi]] w fun e w' => e = .returned (.int .u64 S) ∧ Below w.heap.size w w') (c1 : ¬ (P : Int) < LD) (c2 : ¬ (P2 : Int) < M) (PV : Value) (NE : Bool) (k15 : ∀ w, Calls Try.prog 11 #[.int .u64 VS, .agg #[.int .i64 p, .int .i64 K, .int .i64 bi]] w fun e w' => e = .returned PV ∧ Below w.heap.size w w') (hNG : ∀ w, (eqGuard .neq 27 (.tmp 123) (.tmp 124) PV (.agg #[.int .i64 4, .bool true, .int .u64 M, .int .i64 X, .bool true, .int .u64 LD])).run Try.prog w = .ok () w) (hNE : ∀ w, (binOp .neq 27 PV (.agg #[.int .i64 4, .bool true, .int .u64 M, .int .i64 X, .bool true, .int .u64 LD])).run Try.prog w = .ok (.bool NE) w) :
    Calls Try.prog 66 #[.agg #[.int .i64 4, .bool true, .int .u64 M, .int .i64 X, .bool true, .int .u64 LD], .agg #[.int .i64 p, .int .i64 K, .int .i64 bi]] w fun e w' => e = .returned (if NE then .tuple #[.int .u64 0, .int .i64 40] else .tuple #[.int .u64 VS, .int .i64 0]) ∧ Below w.heap.size w w' := by
  go_enter Try.func66, Try.ntmps66
  go_wp2_with (go_at_call 48; refine (k44 _).mono ?_)
  rintro e w1 rfl bb1
  have x1 : w1.heap[w.heap.size]? = some (.cells #[.int .i64 4, .bool true, .int .u64 M, .int .i64 X, .bool true, .int .u64 LD] 27 (0, 0)) := (bb1.block _ (by omega)).trans ((Below.heap_alloc _ _ _ (by simp)).trans (heap_alloc_last _ _))
  have z1 : w1.heap[w.heap.size + 1]? = some (.cells #[.int .i64 p, .int .i64 K, .int .i64 bi] 30 (0, 0)) := (bb1.block _ (by omega)).trans (last_at _ _ (by simp))
  have B1 : Hid (Below w.heap.size w w1) := by
    have h : Below w.heap.size _ w1 := bb1.mono (by omega)
    exact (((Below.refl _ _).alloc (Nat.le_refl _) _).alloc (by simp) _).trans h
  clear bb1
  go_wp2_with fail
  refine wp_region_vals (a1 := ?a1r19n10) (grown _) [.int .u64 VS, .agg #[.int .i64 p, .int .i64 K, .int .i64 bi], PV, .agg #[.int .i64 4, .bool true, .int .u64 M, .int .i64 X, .bool true, .int .u64 LD], .bool NE] 127 rfl (by kernel_rfl) (by kernel_rfl) (grown_start _) ⟨?o0r19n10, ?o1r19n10, ?o2r19n10, ?o3r19n10, ?o4r19n10, trivial⟩ ?har19n10 ?hdoner19n10
  case har19n10 => simp [putAll, Act.put]; exact rfl
  case o0r19n10 => exact ValOp.pure (grown_steady _ 0) [(6, .int .u64 VS)] rfl (fun _ _ h2 => ⟨(h2 6 (by kernel_rfl)).trans rfl, trivial⟩) (by kernel_rfl) (fun _ _ _ _ _ => by kernel_rfl)
  case o1r19n10 => exact ValOp.pure (grown_steady _ 1) [(3, .pointer (some ⟨(w.heap.size + 1), 0, none⟩))] rfl (fun _ _ h2 => ⟨(h2 3 (by kernel_rfl)).trans rfl, trivial⟩) (by kernel_rfl) (fun _ _ _ hg _ => run_read rfl rfl (run_loadVar_row _ _ _ _ _ _ _ (below_at z1 hg) Try.underlying30 rfl (by kernel_rfl)))
  case o2r19n10 => exact ValOp.call (grown_steady _ 2) [(121, .int .u64 VS), (122, .agg #[.int .i64 p, .int .i64 K, .int .i64 bi])] rfl (fun _ h1 _ => ⟨h1 0 121 (by kernel_rfl), h1 1 122 (by kernel_rfl), trivial⟩) (by kernel_rfl) 11 #[.int .u64 VS, .agg #[.int .i64 p, .int .i64 K, .int .i64 bi]] (fun _ => by kernel_rfl) (fun _ w _ => k15 w)
  case o3r19n10 => exact ValOp.pure (grown_steady _ 3) [(2, .pointer (some ⟨w.heap.size, 0, none⟩))] rfl (fun _ _ h2 => ⟨(h2 2 (by kernel_rfl)).trans rfl, trivial⟩) (by kernel_rfl) (fun _ _ _ hg _ => run_read rfl rfl (run_loadVar_row _ _ _ _ _ _ _ (below_at x1 hg) Try.underlying27 rfl (by kernel_rfl)))
  case o4r19n10 => exact ValOp.pure (grown_steady _ 4) [(123, PV), (124, .agg #[.int .i64 4, .bool true, .int .u64 M, .int .i64 X, .bool true, .int .u64 LD])] rfl (fun _ h1 _ => ⟨h1 2 123 (by kernel_rfl), h1 3 124 (by kernel_rfl), trivial⟩) (by kernel_rfl) (fun _ _ _ _ _ => run_bin (a := PV) (b := .agg #[.int .i64 4, .bool true, .int .u64 M, .int .i64 X, .bool true, .int .u64 LD]) rfl rfl rfl (hNG _) (hNE _))
  intro w2 s2 _ hb2
  replace hb2 : Below _ _ w2 := hb2
  have B2 : Hid (Below w.heap.size w w2) := B1.out.trans (hb2.mono B1.out.size)
  clear hb2
  refine (by assumption : ∀ (a : Act) (w : World), Code.wp Try.prog (Code.cond _ _ _) _ a w → _) _ _ ?_
  cases NE
  · go_wp2
    refine bodyPost_ret (v := .tuple #[.int .u64 VS, .int .i64 0]) (by simp [results, Try.results66, go_sem]) rfl ⟨rfl, B2.out⟩
  · go_wp2
    refine bodyPost_ret (v := .tuple #[.int .u64 0, .int .i64 40]) (by simp [results, Try.results66, go_sem]) rfl ⟨rfl, B2.out⟩
set_option maxHeartbeats 2000000 in
theorem rof_l_load {p : Nat} {bi : Int} (w : World) (h1 : 1 ≤ p) (h2 : p ≤ 52) (_hb0 : 0 ≤ bi) (_hb1 : bi ≤ 1023) (K P P2 M LD : Nat) (X : Int) (ng : Bool) (hK0 : 3 ≤ K) (hK1 : K ≤ 2047) (hP : IntKind.u64.wrap ((2 : Int) ^ p) = P) (_hP2 : IntKind.u64.wrap ((2 : Int) ^ (p + 1)) = P2) (_hP1 : 1 ≤ P) (_hP3 : P ≤ 4503599627370496)
    (INF V : Nat) (hI : IntKind.u64.wrap ((K : Int) * 2 ^ p) = INF) (hV : bits .or .u64 INF LD = V) 
    (c1 : (P : Int) < LD) :
    Calls Try.prog 66 #[.agg #[.int .i64 4, .bool ng, .int .u64 M, .int .i64 X, .bool false, .int .u64 LD], .agg #[.int .i64 p, .int .i64 K, .int .i64 bi]] w fun e w' => e = .returned (.tuple #[.int .u64 0, .int .i64 40]) ∧ Below w.heap.size w w' := by
  go_enter Try.func66, Try.ntmps66
  go_wp2
  refine bodyPost_ret (v := .tuple #[.int .u64 0, .int .i64 40]) (by simp [results, Try.results66, go_sem]) rfl ⟨rfl, ((Below.refl _ _).alloc (Nat.le_refl _) _).alloc (by simp) _⟩
set_option maxHeartbeats 2000000 in
theorem rof_l_mant {p : Nat} {bi : Int} (w : World) (h1 : 1 ≤ p) (h2 : p ≤ 52) (_hb0 : 0 ≤ bi) (_hb1 : bi ≤ 1023) (K P P2 M LD : Nat) (X : Int) (ng : Bool) (hK0 : 3 ≤ K) (hK1 : K ≤ 2047) (hP : IntKind.u64.wrap ((2 : Int) ^ p) = P) (hP2 : IntKind.u64.wrap ((2 : Int) ^ (p + 1)) = P2) (_hP1 : 1 ≤ P) (_hP3 : P ≤ 4503599627370496)
    (INF V : Nat) (hI : IntKind.u64.wrap ((K : Int) * 2 ^ p) = INF) (hV : bits .or .u64 INF LD = V) 
    (c1 : ¬ (P : Int) < LD) (c2 : (P2 : Int) < M) :
    Calls Try.prog 66 #[.agg #[.int .i64 4, .bool ng, .int .u64 M, .int .i64 X, .bool false, .int .u64 LD], .agg #[.int .i64 p, .int .i64 K, .int .i64 bi]] w fun e w' => e = .returned (.tuple #[.int .u64 0, .int .i64 40]) ∧ Below w.heap.size w w' := by
  go_enter Try.func66, Try.ntmps66
  go_wp2
  refine bodyPost_ret (v := .tuple #[.int .u64 0, .int .i64 40]) (by simp [results, Try.results66, go_sem]) rfl ⟨rfl, ((Below.refl _ _).alloc (Nat.le_refl _) _).alloc (by simp) _⟩
set_option maxHeartbeats 2000000 in
theorem rof_l_false {p : Nat} {bi : Int} (w : World) (h1 : 1 ≤ p) (h2 : p ≤ 52) (_hb0 : 0 ≤ bi) (_hb1 : bi ≤ 1023) (K P P2 M LD : Nat) (X : Int) (hK0 : 3 ≤ K) (hK1 : K ≤ 2047) (hP : IntKind.u64.wrap ((2 : Int) ^ p) = P) (hP2 : IntKind.u64.wrap ((2 : Int) ^ (p + 1)) = P2) (_hP1 : 1 ≤ P) (_hP3 : P ≤ 4503599627370496)
    (INF V : Nat) (hI : IntKind.u64.wrap ((K : Int) * 2 ^ p) = INF) (hV : bits .or .u64 INF LD = V) 
    (c1 : ¬ (P : Int) < LD) (c2 : ¬ (P2 : Int) < M) (PV : Value) (NE : Bool) (k15 : ∀ w, Calls Try.prog 11 #[.int .u64 V, .agg #[.int .i64 p, .int .i64 K, .int .i64 bi]] w fun e w' => e = .returned PV ∧ Below w.heap.size w w') (hNG : ∀ w, (eqGuard .neq 27 (.tmp 123) (.tmp 124) PV (.agg #[.int .i64 4, .bool false, .int .u64 M, .int .i64 X, .bool false, .int .u64 LD])).run Try.prog w = .ok () w) (hNE : ∀ w, (binOp .neq 27 PV (.agg #[.int .i64 4, .bool false, .int .u64 M, .int .i64 X, .bool false, .int .u64 LD])).run Try.prog w = .ok (.bool NE) w) :
    Calls Try.prog 66 #[.agg #[.int .i64 4, .bool false, .int .u64 M, .int .i64 X, .bool false, .int .u64 LD], .agg #[.int .i64 p, .int .i64 K, .int .i64 bi]] w fun e w' => e = .returned (if NE then .tuple #[.int .u64 0, .int .i64 40] else .tuple #[.int .u64 V, .int .i64 0]) ∧ Below w.heap.size w w' := by
  go_enter Try.func66, Try.ntmps66
  go_wp2_with fail
  refine wp_region_vals (a1 := ?a1r19n11) (grown _) [.int .u64 V, .agg #[.int .i64 p, .int .i64 K, .int .i64 bi], PV, .agg #[.int .i64 4, .bool false, .int .u64 M, .int .i64 X, .bool false, .int .u64 LD], .bool NE] 127 rfl (by kernel_rfl) (by kernel_rfl) (grown_start _) ⟨?o0r19n11, ?o1r19n11, ?o2r19n11, ?o3r19n11, ?o4r19n11, trivial⟩ ?har19n11 ?hdoner19n11
  case har19n11 => simp [putAll, Act.put]; exact rfl
  case o0r19n11 => exact ValOp.pure (grown_steady _ 0) [(6, .int .u64 V)] rfl (fun _ _ h2 => ⟨(h2 6 (by kernel_rfl)).trans rfl, trivial⟩) (by kernel_rfl) (fun _ _ _ _ _ => by kernel_rfl)
  case o1r19n11 => exact ValOp.pure (grown_steady _ 1) [(3, .pointer (some ⟨(w.heap.size + 1), 0, none⟩))] rfl (fun _ _ h2 => ⟨(h2 3 (by kernel_rfl)).trans rfl, trivial⟩) (by kernel_rfl) (fun _ _ _ hg _ => run_read rfl rfl (run_loadVar_row _ _ _ _ _ _ _ (below_at (last_at _ _ (by simp)) hg) Try.underlying30 rfl (by kernel_rfl)))
  case o2r19n11 => exact ValOp.call (grown_steady _ 2) [(121, .int .u64 V), (122, .agg #[.int .i64 p, .int .i64 K, .int .i64 bi])] rfl (fun _ h1 _ => ⟨h1 0 121 (by kernel_rfl), h1 1 122 (by kernel_rfl), trivial⟩) (by kernel_rfl) 11 #[.int .u64 V, .agg #[.int .i64 p, .int .i64 K, .int .i64 bi]] (fun _ => by kernel_rfl) (fun _ w _ => k15 w)
  case o3r19n11 => exact ValOp.pure (grown_steady _ 3) [(2, .pointer (some ⟨w.heap.size, 0, none⟩))] rfl (fun _ _ h2 => ⟨(h2 2 (by kernel_rfl)).trans rfl, trivial⟩) (by kernel_rfl) (fun _ _ _ hg _ => run_read rfl rfl (run_loadVar_row _ _ _ _ _ _ _ (below_at ((Below.heap_alloc _ _ _ (by simp)).trans (heap_alloc_last _ _)) hg) Try.underlying27 rfl (by kernel_rfl)))
  case o4r19n11 => exact ValOp.pure (grown_steady _ 4) [(123, PV), (124, .agg #[.int .i64 4, .bool false, .int .u64 M, .int .i64 X, .bool false, .int .u64 LD])] rfl (fun _ h1 _ => ⟨h1 2 123 (by kernel_rfl), h1 3 124 (by kernel_rfl), trivial⟩) (by kernel_rfl) (fun _ _ _ _ _ => run_bin (a := PV) (b := .agg #[.int .i64 4, .bool false, .int .u64 M, .int .i64 X, .bool false, .int .u64 LD]) rfl rfl rfl (hNG _) (hNE _))
  intro w2 s2 _ hb2
  replace hb2 : Below _ _ w2 := hb2
  have B2 : Hid (Below w.heap.size w w2) := by
    have h : Below w.heap.size _ w2 := hb2.mono (by simp <;> omega)
    exact (((Below.refl _ _).alloc (Nat.le_refl _) _).alloc (by simp) _).trans h
  clear hb2
  refine (by assumption : ∀ (a : Act) (w : World), Code.wp Try.prog (Code.cond _ _ _) _ a w → _) _ _ ?_
  cases NE
  · go_wp2
    refine bodyPost_ret (v := .tuple #[.int .u64 V, .int .i64 0]) (by simp [results, Try.results66, go_sem]) rfl ⟨rfl, B2.out⟩
  · go_wp2
    refine bodyPost_ret (v := .tuple #[.int .u64 0, .int .i64 40]) (by simp [results, Try.results66, go_sem]) rfl ⟨rfl, B2.out⟩
set_option maxHeartbeats 2000000 in
theorem rof_l_true {p : Nat} {bi : Int} (w : World) (h1 : 1 ≤ p) (h2 : p ≤ 52) (_hb0 : 0 ≤ bi) (_hb1 : bi ≤ 1023) (K P P2 M LD : Nat) (X : Int) (hK0 : 3 ≤ K) (hK1 : K ≤ 2047) (hP : IntKind.u64.wrap ((2 : Int) ^ p) = P) (hP2 : IntKind.u64.wrap ((2 : Int) ^ (p + 1)) = P2) (_hP1 : 1 ≤ P) (_hP3 : P ≤ 4503599627370496)
    (INF V : Nat) (hI : IntKind.u64.wrap ((K : Int) * 2 ^ p) = INF) (hV : bits .or .u64 INF LD = V) 
    (S VS : Nat) (hVS : bits .or .u64 (V : Int) S = VS) (k44 : ∀ w, Calls Try.prog 48 #[.agg #[.int .i64 p, .int .i64 K, .int .i64 bi]] w fun e w' => e = .returned (.int .u64 S) ∧ Below w.heap.size w w') (c1 : ¬ (P : Int) < LD) (c2 : ¬ (P2 : Int) < M) (PV : Value) (NE : Bool) (k15 : ∀ w, Calls Try.prog 11 #[.int .u64 VS, .agg #[.int .i64 p, .int .i64 K, .int .i64 bi]] w fun e w' => e = .returned PV ∧ Below w.heap.size w w') (hNG : ∀ w, (eqGuard .neq 27 (.tmp 123) (.tmp 124) PV (.agg #[.int .i64 4, .bool true, .int .u64 M, .int .i64 X, .bool false, .int .u64 LD])).run Try.prog w = .ok () w) (hNE : ∀ w, (binOp .neq 27 PV (.agg #[.int .i64 4, .bool true, .int .u64 M, .int .i64 X, .bool false, .int .u64 LD])).run Try.prog w = .ok (.bool NE) w) :
    Calls Try.prog 66 #[.agg #[.int .i64 4, .bool true, .int .u64 M, .int .i64 X, .bool false, .int .u64 LD], .agg #[.int .i64 p, .int .i64 K, .int .i64 bi]] w fun e w' => e = .returned (if NE then .tuple #[.int .u64 0, .int .i64 40] else .tuple #[.int .u64 VS, .int .i64 0]) ∧ Below w.heap.size w w' := by
  go_enter Try.func66, Try.ntmps66
  go_wp2_with (go_at_call 48; refine (k44 _).mono ?_)
  rintro e w1 rfl bb1
  have x1 : w1.heap[w.heap.size]? = some (.cells #[.int .i64 4, .bool true, .int .u64 M, .int .i64 X, .bool false, .int .u64 LD] 27 (0, 0)) := (bb1.block _ (by omega)).trans ((Below.heap_alloc _ _ _ (by simp)).trans (heap_alloc_last _ _))
  have z1 : w1.heap[w.heap.size + 1]? = some (.cells #[.int .i64 p, .int .i64 K, .int .i64 bi] 30 (0, 0)) := (bb1.block _ (by omega)).trans (last_at _ _ (by simp))
  have B1 : Hid (Below w.heap.size w w1) := by
    have h : Below w.heap.size _ w1 := bb1.mono (by omega)
    exact (((Below.refl _ _).alloc (Nat.le_refl _) _).alloc (by simp) _).trans h
  clear bb1
  go_wp2_with fail
  refine wp_region_vals (a1 := ?a1r19n12) (grown _) [.int .u64 VS, .agg #[.int .i64 p, .int .i64 K, .int .i64 bi], PV, .agg #[.int .i64 4, .bool true, .int .u64 M, .int .i64 X, .bool false, .int .u64 LD], .bool NE] 127 rfl (by kernel_rfl) (by kernel_rfl) (grown_start _) ⟨?o0r19n12, ?o1r19n12, ?o2r19n12, ?o3r19n12, ?o4r19n12, trivial⟩ ?har19n12 ?hdoner19n12
  case har19n12 => simp [putAll, Act.put]; exact rfl
  case o0r19n12 => exact ValOp.pure (grown_steady _ 0) [(6, .int .u64 VS)] rfl (fun _ _ h2 => ⟨(h2 6 (by kernel_rfl)).trans rfl, trivial⟩) (by kernel_rfl) (fun _ _ _ _ _ => by kernel_rfl)
  case o1r19n12 => exact ValOp.pure (grown_steady _ 1) [(3, .pointer (some ⟨(w.heap.size + 1), 0, none⟩))] rfl (fun _ _ h2 => ⟨(h2 3 (by kernel_rfl)).trans rfl, trivial⟩) (by kernel_rfl) (fun _ _ _ hg _ => run_read rfl rfl (run_loadVar_row _ _ _ _ _ _ _ (below_at z1 hg) Try.underlying30 rfl (by kernel_rfl)))
  case o2r19n12 => exact ValOp.call (grown_steady _ 2) [(121, .int .u64 VS), (122, .agg #[.int .i64 p, .int .i64 K, .int .i64 bi])] rfl (fun _ h1 _ => ⟨h1 0 121 (by kernel_rfl), h1 1 122 (by kernel_rfl), trivial⟩) (by kernel_rfl) 11 #[.int .u64 VS, .agg #[.int .i64 p, .int .i64 K, .int .i64 bi]] (fun _ => by kernel_rfl) (fun _ w _ => k15 w)
  case o3r19n12 => exact ValOp.pure (grown_steady _ 3) [(2, .pointer (some ⟨w.heap.size, 0, none⟩))] rfl (fun _ _ h2 => ⟨(h2 2 (by kernel_rfl)).trans rfl, trivial⟩) (by kernel_rfl) (fun _ _ _ hg _ => run_read rfl rfl (run_loadVar_row _ _ _ _ _ _ _ (below_at x1 hg) Try.underlying27 rfl (by kernel_rfl)))
  case o4r19n12 => exact ValOp.pure (grown_steady _ 4) [(123, PV), (124, .agg #[.int .i64 4, .bool true, .int .u64 M, .int .i64 X, .bool false, .int .u64 LD])] rfl (fun _ h1 _ => ⟨h1 2 123 (by kernel_rfl), h1 3 124 (by kernel_rfl), trivial⟩) (by kernel_rfl) (fun _ _ _ _ _ => run_bin (a := PV) (b := .agg #[.int .i64 4, .bool true, .int .u64 M, .int .i64 X, .bool false, .int .u64 LD]) rfl rfl rfl (hNG _) (hNE _))
  intro w2 s2 _ hb2
  replace hb2 : Below _ _ w2 := hb2
  have B2 : Hid (Below w.heap.size w w2) := B1.out.trans (hb2.mono B1.out.size)
  clear hb2
  refine (by assumption : ∀ (a : Act) (w : World), Code.wp Try.prog (Code.cond _ _ _) _ a w → _) _ _ ?_
  cases NE
  · go_wp2
    refine bodyPost_ret (v := .tuple #[.int .u64 VS, .int .i64 0]) (by simp [results, Try.results66, go_sem]) rfl ⟨rfl, B2.out⟩
  · go_wp2
    refine bodyPost_ret (v := .tuple #[.int .u64 0, .int .i64 40]) (by simp [results, Try.results66, go_sem]) rfl ⟨rfl, B2.out⟩
end Go.Proofs.Ytjcjecbffnadaab
