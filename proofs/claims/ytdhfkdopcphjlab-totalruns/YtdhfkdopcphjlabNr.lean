/-
  The contract of nearest: the bits of a whole number times a power of two, rounded. Conditions: the layout is one that is reckoned with; the exponent is not too great.
-/
import Derived.Test.YtdhfkdopcphjlabIu
namespace Go.Proofs.Ytdhfkdopcphjlab
open Go.RowKit
set_option maxHeartbeats 2000000 in
theorem near_zero {p : Nat} {bi : Int} (w : World) (K : Nat) (e : Int) : Calls Try.prog 130 #[.agg #[.int .i64 p, .int .u64 K, .int .i64 bi], .int .u64 0, .int .i64 e] w fun e w' => e = .returned (.int .u64 0) ∧ Below w.heap.size w w' := by
  go_enter Try.func130, Try.ntmps130
  go_wp2
  go_ret
  exact ⟨rfl, (Below.refl _ _).alloc (Nat.le_refl _) _⟩
set_option maxHeartbeats 2000000 in
theorem near_inf {p : Nat} {bi : Int} (w : World) (_h1 : 1 ≤ p) (_h2 : p ≤ 52) (hb0 : 0 ≤ bi) (hb1 : bi ≤ 1023) (K m ln : Nat) (e : Int) (he1 : -10000 ≤ e) (he2 : e ≤ 10000) (hl0 : ln ≤ 64) (hm0 : ¬ m = 0)
    (k65 : ∀ w, Calls Try.prog 114 #[.int .u64 (m : Int)] w fun e w' => e = .returned (.int .i64 (ln : Int)) ∧ w' = w)
    (INF : Nat) (hpw : bi < e + ln - 1) (k59 : ∀ w, Calls Try.prog 128 #[.agg #[.int .i64 p, .int .u64 K, .int .i64 bi]] w fun e w' => e = .returned (.int .u64 (INF : Int)) ∧ Below w.heap.size w w') :
    Calls Try.prog 130 #[.agg #[.int .i64 p, .int .u64 K, .int .i64 bi], .int .u64 (m : Int), .int .i64 e] w fun e w' => e = .returned (.int .u64 (INF : Int)) ∧ Below w.heap.size w w' := by
  go_enter Try.func130, Try.ntmps130
  go_wp2_with (go_at_call 114; refine (k65 _).mono ?_)
  rintro e w1 ⟨rfl, rfl⟩
  go_wp2_with (go_at_call 128; refine (k59 _).mono ?_)
  intro e w2 hh
  first | (obtain ⟨rfl, b2⟩ : _ ∧ _ := hh) | (subst hh; intro b2)
  have B2 : Hid (Below w.heap.size w w2) := ((Below.refl _ _).alloc (Nat.le_refl _) _).trans (b2.mono (by simp))
  clear b2
  go_wp2
  go_ret
  exact ⟨rfl, B2.out⟩
theorem run_max {w : World} {l : List (Nat × Value)} {o : Oper} (t u : Tmp) (a b : Int) (ho : o.op = .call { callee := .builtin .max, args := #[.tmp t, .tmp u], argTypes := #[3, 3] }) (hx : rho l (.tmp t) = .int .i64 a) (hy : rho l (.tmp u) = .int .i64 b) : (execOp (rho l) o).run Try.prog w = .ok (.value (.int .i64 (max a b))) w := by
  unfold execOp
  simp [ho, hx, hy, go_sem]
set_option maxHeartbeats 2000000 in
theorem near_num {p : Nat} {bi : Int} (w : World) (h1 : 1 ≤ p) (h2 : p ≤ 52) (hb0 : 0 ≤ bi) (hb1 : bi ≤ 1023) (K m ln : Nat) (e : Int) (he1 : -10000 ≤ e) (he2 : e ≤ 10000) (hl0 : ln ≤ 64) (hm0 : ¬ m = 0)
    (k65 : ∀ w, Calls Try.prog 114 #[.int .u64 (m : Int)] w fun e w' => e = .returned (.int .i64 (ln : Int)) ∧ w' = w)
    (LOW U : Int) (NN TP R : Nat) (hpw : ¬ bi < e + ln - 1) (hsub : IntKind.i64.wrap (e + ln - 1 - p) = e + ln - 1 - p) (hmax : max (e + ln - 1 - (p : Int)) LOW = U) (hUL : IntKind.i64.wrap (U - LOW) = U - LOW) (hU1 : -20000 ≤ U) (hU2 : U ≤ 20000) (hTP : IntKind.u64.wrap (IntKind.u64.wrap (U - LOW) * 2 ^ p) = TP) (hR : IntKind.u64.wrap ((TP : Int) + NN) = R)
    (k58 : ∀ w, Calls Try.prog 126 #[.agg #[.int .i64 p, .int .u64 K, .int .i64 bi]] w fun e w' => e = .returned (.int .i64 LOW) ∧ Below w.heap.size w w') (k66 : ∀ w, Calls Try.prog 132 #[.int .u64 (m : Int), .int .i64 (U - e)] w fun e w' => e = .returned (.int .u64 (NN : Int)) ∧ Below w.heap.size w w') :
    Calls Try.prog 130 #[.agg #[.int .i64 p, .int .u64 K, .int .i64 bi], .int .u64 (m : Int), .int .i64 e] w fun e w' => e = .returned (.int .u64 (R : Int)) ∧ Below w.heap.size w w' := by
  go_enter Try.func130, Try.ntmps130
  go_wp2_with (go_at_call 114; refine (k65 _).mono ?_)
  first
  | (intro e0 w0 hh
     obtain ⟨rfl, hw⟩ : _ = Ending.returned _ ∧ _ = _ := hh
     rw [hw]
     clear hw w0)
  | skip
  go_wp2_with fail
  refine wp_region_vals (a1 := ?a1r6n5) (grown _) [.int .i64 (e + ln - 1), .pointer (some ⟨w.heap.size, 0, none⟩), .int .i64 p, .int .i64 (e + ln - 1 - p), .agg #[.int .i64 p, .int .u64 K, .int .i64 bi], .int .i64 LOW, .int .i64 U, .int .i64 U] 45 rfl (by kernel_rfl) (by kernel_rfl) (grown_start _) ⟨?o0r6n5, ?o1r6n5, ?o2r6n5, ?o3r6n5, ?o4r6n5, ?o5r6n5, ?o6r6n5, ?o7r6n5, trivial⟩ ?har6n5 ?hdoner6n5
  case har6n5 => simp [putAll, Act.put]; exact rfl
  case o0r6n5 => exact ValOp.pure (grown_steady _ 0) [(7, .int .i64 (e + ln - 1))] rfl (fun _ _ h2 => ⟨(h2 7 (by kernel_rfl)).trans rfl, trivial⟩) (by kernel_rfl) (fun _ _ _ _ _ => by kernel_rfl)
  case o1r6n5 => exact ValOp.pure (grown_steady _ 1) [(3, .pointer (some ⟨w.heap.size, 0, none⟩))] rfl (fun _ _ h2 => ⟨(h2 3 (by kernel_rfl)).trans rfl, trivial⟩) (by kernel_rfl) (fun _ _ _ _ _ => by kernel_rfl)
  case o2r6n5 => exact ValOp.pure (grown_steady _ 2) [(24, .pointer (some ⟨w.heap.size, 0, none⟩))] rfl (fun _ h1 _ => ⟨h1 1 24 (by kernel_rfl), trivial⟩) (by kernel_rfl) (fun _ _ _ hg _ => run_read rfl rfl (run_cell (below_at (heap_alloc_last _ _) hg) rfl (Try.isAgg3 _)))
  case o3r6n5 => exact ValOp.pure (grown_steady _ 3) [(23, .int .i64 (e + ln - 1)), (25, .int .i64 p)] rfl (fun _ h1 _ => ⟨h1 0 23 (by kernel_rfl), h1 2 25 (by kernel_rfl), trivial⟩) (by kernel_rfl) (fun _ _ _ _ _ => run_bin (a := .int .i64 (e + ln - 1)) (b := .int .i64 p) rfl rfl rfl (by kernel_rfl) (by simp [go_sem, hsub]))
  case o4r6n5 => exact ValOp.pure (grown_steady _ 4) [(3, .pointer (some ⟨w.heap.size, 0, none⟩))] rfl (fun _ _ h2 => ⟨(h2 3 (by kernel_rfl)).trans rfl, trivial⟩) (by kernel_rfl) (fun _ _ _ hg _ => run_read rfl rfl (run_loadVar_row _ _ _ _ _ _ _ (below_at (heap_alloc_last _ _) hg) Try.underlying121 rfl (by kernel_rfl)))
  case o5r6n5 => exact ValOp.call (grown_steady _ 5) [(27, .agg #[.int .i64 p, .int .u64 K, .int .i64 bi])] rfl (fun _ h1 _ => ⟨h1 4 27 (by kernel_rfl), trivial⟩) (by kernel_rfl) 126 #[.agg #[.int .i64 p, .int .u64 K, .int .i64 bi]] (fun _ => by kernel_rfl) (fun _ w _ => k58 w)
  case o6r6n5 => exact ValOp.pure (grown_steady _ 6) [(26, .int .i64 (e + ln - 1 - p)), (28, .int .i64 LOW)] rfl (fun _ h1 _ => ⟨h1 3 26 (by kernel_rfl), h1 5 28 (by kernel_rfl), trivial⟩) (by kernel_rfl) (fun _ _ _ _ _ => (run_max _ _ _ _ rfl rfl rfl).trans (by rw [hmax]; rfl))
  case o7r6n5 => exact ValOp.pure (grown_steady _ 7) [(29, .int .i64 U)] rfl (fun _ h1 _ => ⟨h1 6 29 (by kernel_rfl), trivial⟩) (by kernel_rfl) (fun _ _ _ _ _ => by kernel_rfl)
  intro w1 s1 _ bb1
  replace bb1 : Below _ _ w1 := bb1
  have l1 : w1.heap[w.heap.size]? = some (.cells #[.int .i64 p, .int .u64 K, .int .i64 bi] 121 (0, 0)) := below_at (heap_alloc_last _ _) bb1
  have B1 : Hid (Below w.heap.size w w1) := ((Below.refl _ _).alloc (Nat.le_refl _) _).trans (bb1.mono (by simp))
  have z1 : w.heap.size + 1 ≤ w1.heap.size := by have := bb1.size; simpa using this
  clear bb1
  refine (by assumption : ∀ (a : Act) (w : World), Code.wp Try.prog (Code.seq _ _) _ a w → _) _ _ ?_
  go_wp2_with (go_at_call 132; refine (k66 _).mono ?_)
  intro e1 w2 hh
  first | (obtain ⟨rfl, bb2⟩ : _ ∧ _ := hh) | (subst hh; intro bb2)
  have l2 := (bb2.block _ (by omega)).trans l1
  have B2 : Hid (Below w.heap.size w w2) := B1.out.trans (bb2.mono (by omega))
  clear bb2 B1 l1
  go_wp2_with fail
  refine wp_region_vals (a1 := ?a1r8n6) (grown _) [.int .i64 U, .agg #[.int .i64 p, .int .u64 K, .int .i64 bi], .int .i64 LOW, .int .i64 (U - LOW), .int .u64 (IntKind.u64.wrap (U - LOW)), .pointer (some ⟨w.heap.size, 0, none⟩), .int .i64 p, .int .u64 TP, .int .u64 NN, .int .u64 R, .int .u64 R] 45 rfl (by kernel_rfl) (by kernel_rfl) (grown_start _) ⟨?o0r8n6, ?o1r8n6, ?o2r8n6, ?o3r8n6, ?o4r8n6, ?o5r8n6, ?o6r8n6, ?o7r8n6, ?o8r8n6, ?o9r8n6, ?o10r8n6, trivial⟩ ?har8n6 ?hdoner8n6
  case har8n6 => simp [putAll, Act.put]; exact rfl
  case o0r8n6 => exact ValOp.pure (grown_steady _ 0) [(8, .int .i64 U)] rfl (fun _ _ h2 => ⟨(h2 8 (by kernel_rfl)).trans rfl, trivial⟩) (by kernel_rfl) (fun _ _ _ _ _ => by kernel_rfl)
  case o1r8n6 => exact ValOp.pure (grown_steady _ 1) [(3, .pointer (some ⟨w.heap.size, 0, none⟩))] rfl (fun _ _ h2 => ⟨(h2 3 (by kernel_rfl)).trans rfl, trivial⟩) (by kernel_rfl) (fun _ _ _ hg _ => run_read rfl rfl (run_loadVar_row _ _ _ _ _ _ _ (below_at l2 hg) Try.underlying121 rfl (by kernel_rfl)))
  case o2r8n6 => exact ValOp.call (grown_steady _ 2) [(36, .agg #[.int .i64 p, .int .u64 K, .int .i64 bi])] rfl (fun _ h1 _ => ⟨h1 1 36 (by kernel_rfl), trivial⟩) (by kernel_rfl) 126 #[.agg #[.int .i64 p, .int .u64 K, .int .i64 bi]] (fun _ => by kernel_rfl) (fun _ w _ => k58 w)
  case o3r8n6 => exact ValOp.pure (grown_steady _ 3) [(35, .int .i64 U), (37, .int .i64 LOW)] rfl (fun _ h1 _ => ⟨h1 0 35 (by kernel_rfl), h1 2 37 (by kernel_rfl), trivial⟩) (by kernel_rfl) (fun _ _ _ _ _ => run_bin (a := .int .i64 U) (b := .int .i64 LOW) rfl rfl rfl (by kernel_rfl) (by simp [go_sem, hUL]))
  case o4r8n6 => exact ValOp.pure (grown_steady _ 4) [(38, .int .i64 (U - LOW))] rfl (fun _ h1 _ => ⟨h1 3 38 (by kernel_rfl), trivial⟩) (by kernel_rfl) (fun _ _ _ _ _ => by kernel_rfl)
  case o5r8n6 => exact ValOp.pure (grown_steady _ 5) [(3, .pointer (some ⟨w.heap.size, 0, none⟩))] rfl (fun _ _ h2 => ⟨(h2 3 (by kernel_rfl)).trans rfl, trivial⟩) (by kernel_rfl) (fun _ _ _ _ _ => by kernel_rfl)
  case o6r8n6 => exact ValOp.pure (grown_steady _ 6) [(40, .pointer (some ⟨w.heap.size, 0, none⟩))] rfl (fun _ h1 _ => ⟨h1 5 40 (by kernel_rfl), trivial⟩) (by kernel_rfl) (fun _ _ _ hg _ => run_read rfl rfl (run_cell (below_at l2 hg) rfl (Try.isAgg3 _)))
  case o7r8n6 => exact ValOp.pure (grown_steady _ 7) [(39, .int .u64 (IntKind.u64.wrap (U - LOW))), (41, .int .i64 p)] rfl (fun _ h1 _ => ⟨h1 4 39 (by kernel_rfl), h1 6 41 (by kernel_rfl), trivial⟩) (by kernel_rfl) (fun _ _ _ _ _ => run_bin (a := .int .u64 (IntKind.u64.wrap (U - LOW))) (b := .int .i64 p) rfl rfl rfl (by kernel_rfl) (by simp [go_sem, hTP]))
  case o8r8n6 => exact ValOp.pure (grown_steady _ 8) [(9, .int .u64 NN)] rfl (fun _ _ h2 => ⟨(h2 9 (by kernel_rfl)).trans rfl, trivial⟩) (by kernel_rfl) (fun _ _ _ _ _ => by kernel_rfl)
  case o9r8n6 => exact ValOp.pure (grown_steady _ 9) [(42, .int .u64 TP), (43, .int .u64 NN)] rfl (fun _ h1 _ => ⟨h1 7 42 (by kernel_rfl), h1 8 43 (by kernel_rfl), trivial⟩) (by kernel_rfl) (fun _ _ _ _ _ => run_bin (a := .int .u64 TP) (b := .int .u64 NN) rfl rfl rfl (by kernel_rfl) (by simp [go_sem, hR]))
  case o10r8n6 => exact ValOp.pure (grown_steady _ 10) [(44, .int .u64 R)] rfl (fun _ h1 _ => ⟨h1 9 44 (by kernel_rfl), trivial⟩) (by kernel_rfl) (fun _ _ _ _ _ => by kernel_rfl)
  intro w3 s3 _ bb3
  replace bb3 : Below _ _ w3 := bb3
  have B3 : Hid (Below w.heap.size w w3) := B2.out.trans (bb3.mono B2.out.size)
  clear bb3 B2
  refine (by assumption : ∀ (a : Act) (w : World), Code.wp Try.prog Code.ret _ a w → _) _ _ ?_
  go_wp2
  go_ret
  exact ⟨rfl, B3.out⟩
end Go.Proofs.Ytdhfkdopcphjlab
