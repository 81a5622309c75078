/-
  The contract of Modf, the code's. Condition: the float's bits fit.
-/
import Derived.Test.YtjcjecbffnadaabPw
namespace Go.Proofs.Ytjcjecbffnadaab
open Go.RowKit
noncomputable def body27 : Code := Try.f27.body.getD .skip
theorem run_neg {P : Program} {w : World} {l : List (Nat × Value)} {o : Oper} {t : TypeId} {x : Operand} (ho : o.op = .unOp .neg t x) {a n : Int} {k : IntKind} (hx : rho l x = .int k a) (hr : k.wrap (-a) = n) : (execOp (rho l) o).run P w = .ok (.value (.int k n)) w := by
  subst hr
  unfold execOp
  simp [ho, hx, go_sem]
set_option maxRecDepth 100000 in
set_option maxHeartbeats 2000000 in
theorem mo_a {Q : Ending → World → Prop} (b : Nat) (kd X : Int) (ng qu : Bool) (M LD : Nat) (w : World) (k46 : ∀ w, Calls Try.prog 46 #[.float .f64 b] w fun e w' => e = .returned (.agg #[.int .i64 kd, .bool ng, .int .u64 (M : Int), .int .i64 X, .bool qu, .int .u64 (LD : Int)]) ∧ Below w.heap.size w w')
    (hK : Hid (∀ a w' g, w.heap.size ≤ g → Below w.heap.size w w' → w'.heap[g]? = some (.cells #[.int .i64 kd, .bool ng, .int .u64 (M : Int), .int .i64 X, .bool qu, .int .u64 (LD : Int)] 66 (0, 0)) → At 41 [(0, .float .f64 b), (4, .pointer (some ⟨g, 0, none⟩))] a → Code.wp Try.prog (sq 2 body27) (bodyPost Try.prog Try.f27 Q) a w')) : Calls Try.prog 27 #[.float .f64 b] w Q := by
  go_enter Try.func27, Try.ntmps27
  change Code.wp _ (Code.seq (hd (sq 0 body27)) (Code.seq (hd (sq 1 body27)) (sq 2 body27))) _ _ _
  generalize sq 2 body27 = REST at hK ⊢
  conv => arg 2; arg 1; whnf
  conv => arg 2; arg 2; arg 1; whnf
  go_wp2_with (go_at_call 46; refine (k46 _).mono ?_)
  intro e1 w1 hq
  first | (obtain ⟨rfl, b1⟩ : _ ∧ _ := hq) | (subst hq; intro b1)
  have B1 : Hid (Below w.heap.size w (w1.alloc (.cells #[.int .i64 kd, .bool ng, .int .u64 (M : Int), .int .i64 X, .bool qu, .int .u64 (LD : Int)] 66))) := b1.alloc b1.size _
  have z1 := show Hid _ from b1.size
  have r1 : Hid ((w1.alloc (.cells #[.int .i64 kd, .bool ng, .int .u64 (M : Int), .int .i64 X, .bool qu, .int .u64 (LD : Int)] 66)).heap[w1.heap.size]? = some (.cells #[.int .i64 kd, .bool ng, .int .u64 (M : Int), .int .i64 X, .bool qu, .int .u64 (LD : Int)] 66 (0, 0))) := heap_alloc_last _ _
  clear b1
  go_wp2
  exact hK.out _ _ _ z1.out B1.out r1.out ⟨rfl, rfl, rfl, rfl, trivial⟩
set_option maxRecDepth 100000 in
set_option maxHeartbeats 2000000 in
theorem mo_4 (b : Nat) (kd X : Int) (ng qu : Bool) (M LD : Nat) (g : Nat) (a : Act) (w0 w : World) (B : Hid (Below w0.heap.size w0 w)) (r : Hid (w.heap[g]? = some (.cells #[.int .i64 kd, .bool ng, .int .u64 (M : Int), .int .i64 X, .bool qu, .int .u64 (LD : Int)] 66 (0, 0)))) (h : kd = 4) (ha : At 41 [(0, .float .f64 b), (4, .pointer (some ⟨g, 0, none⟩))] a) : Code.wp Try.prog (sq 2 body27) (bodyPost Try.prog Try.f27 fun e w' => e = .returned (.tuple #[.float .f64 b, .float .f64 b]) ∧ Below w0.heap.size w0 w') a w := by
  subst h
  obtain ⟨m0, m1, m2, m3, m4, m5⟩ := cells6 r.out
  obtain ⟨f, rfl, h0, h4, -⟩ := ha.lit
  change Code.wp _ _ _ ⟨#[f 0, f 1, f 2, f 3, f 4, f 5, f 6, f 7, f 8, f 9, f 10, f 11, f 12, f 13, f 14, f 15, f 16, f 17, f 18, f 19, f 20, f 21, f 22, f 23, f 24, f 25, f 26, f 27, f 28, f 29, f 30, f 31, f 32, f 33, f 34, f 35, f 36, f 37, f 38, f 39, f 40], []⟩ _
  simp only at h0 h4
  simp only [h0, h4]
  clear h0 h4
  conv => arg 2; whnf
  go_wp2
  go_ret2
  exact ⟨rfl, B.out⟩
set_option maxRecDepth 100000 in
set_option maxHeartbeats 2000000 in
theorem mo_b {Q : Exit → Act → World → Prop} (b : Nat) (kd X : Int) (ng qu : Bool) (M LD : Nat) (g : Nat) (a : Act) (w : World) (r : Hid (w.heap[g]? = some (.cells #[.int .i64 kd, .bool ng, .int .u64 (M : Int), .int .i64 X, .bool qu, .int .u64 (LD : Int)] 66 (0, 0)))) (h : (kd == 4) = false) (hK : Hid (∀ a w' g2, g2 = w.heap.size → Below w.heap.size w w' → w'.heap[g2]? = some (.cells #[.int .i64 0, .bool ng, .int .u64 ((0 : Nat) : Int), .int .i64 X, .bool qu, .int .u64 (LD : Int)] 66 (0, 0)) → At 41 [(4, .pointer (some ⟨g, 0, none⟩)), (5, .pointer (some ⟨g2, 0, none⟩))] a → Code.wp Try.prog (sq 5 body27) Q a w')) (ha : At 41 [(0, .float .f64 b), (4, .pointer (some ⟨g, 0, none⟩))] a) : Code.wp Try.prog (sq 2 body27) Q a w := by
  obtain ⟨m0, m1, m2, m3, m4, m5⟩ := cells6 r.out
  obtain ⟨f, rfl, h0, h4, -⟩ := ha.lit
  change Code.wp _ _ _ ⟨#[f 0, f 1, f 2, f 3, f 4, f 5, f 6, f 7, f 8, f 9, f 10, f 11, f 12, f 13, f 14, f 15, f 16, f 17, f 18, f 19, f 20, f 21, f 22, f 23, f 24, f 25, f 26, f 27, f 28, f 29, f 30, f 31, f 32, f 33, f 34, f 35, f 36, f 37, f 38, f 39, f 40], []⟩ _
  simp only at h0 h4
  simp only [h0, h4]
  clear h0 h4
  change Code.wp _ (Code.seq (hd (sq 2 body27)) (Code.seq (hd (sq 3 body27)) (Code.seq (hd (sq 4 body27)) (sq 5 body27)))) _ _ _
  generalize sq 5 body27 = REST at hK ⊢
  conv => arg 2; arg 1; whnf
  conv => arg 2; arg 2; arg 1; whnf
  conv => arg 2; arg 2; arg 2; arg 1; whnf
  go_wp2
  refine hK.out _ _ w.heap.size rfl ?_ ?_ ⟨rfl, rfl, rfl, rfl, trivial⟩
  · exact (Below.refl _ _).alloc (Nat.le_refl _) _
  · exact heap_alloc_last _ _
set_option maxRecDepth 100000 in
set_option maxHeartbeats 2000000 in
theorem mo_c {Q : Exit → Act → World → Prop} (kd X : Int) (ng qu : Bool) (M LD : Nat) (g g2 Q0 WH RE Bd : Nat) (a : Act) (w : World) (hg12 : Hid (¬ g2 = g ∧ Bd ≤ g ∧ Bd ≤ g2 ∧ Bd ≤ w.heap.size)) (r : Hid (w.heap[g]? = some (.cells #[.int .i64 kd, .bool ng, .int .u64 (M : Int), .int .i64 X, .bool qu, .int .u64 (LD : Int)] 66 (0, 0)))) (r2 : Hid (w.heap[g2]? = some (.cells #[.int .i64 0, .bool ng, .int .u64 ((0 : Nat) : Int), .int .i64 X, .bool qu, .int .u64 (LD : Int)] 66 (0, 0)))) (h : X < 0) (nX : Int) (hn : IntKind.i64.wrap (-X) = nX) (h1 : Op.shift .shr .u64 (M : Int) .i64 nX = pure (.int .u64 (Q0 : Int))) (h2 : Op.shift .shl .u64 (Q0 : Int) .i64 nX = pure (.int .u64 (WH : Int))) (h3 : IntKind.u64.wrap ((M : Int) - (WH : Int)) = (RE : Int)) (hK : Hid (∀ a w', Below Bd w w' → w'.heap[g]? = some (.cells #[.int .i64 kd, .bool ng, .int .u64 (WH : Int), .int .i64 X, .bool qu, .int .u64 (LD : Int)] 66 (0, 0)) → w'.heap[g2]? = some (.cells #[.int .i64 0, .bool ng, .int .u64 (RE : Int), .int .i64 X, .bool qu, .int .u64 (LD : Int)] 66 (0, 0)) → At 41 [(4, .pointer (some ⟨g, 0, none⟩)), (5, .pointer (some ⟨g2, 0, none⟩))] a → Code.wp Try.prog (sq 6 body27) Q a w')) (ha : At 41 [(4, .pointer (some ⟨g, 0, none⟩)), (5, .pointer (some ⟨g2, 0, none⟩))] a) : Code.wp Try.prog (sq 5 body27) Q a w := by
  obtain ⟨m0, m1, m2, m3, m4, m5⟩ := cells6 r.out
  have hr := r
  have hr2 := r2
  obtain ⟨f, rfl, h4, h5, -⟩ := ha.lit
  change Code.wp _ _ _ ⟨#[f 0, f 1, f 2, f 3, f 4, f 5, f 6, f 7, f 8, f 9, f 10, f 11, f 12, f 13, f 14, f 15, f 16, f 17, f 18, f 19, f 20, f 21, f 22, f 23, f 24, f 25, f 26, f 27, f 28, f 29, f 30, f 31, f 32, f 33, f 34, f 35, f 36, f 37, f 38, f 39, f 40], []⟩ _
  simp only at h4 h5
  simp only [h4, h5]
  clear h4 h5
  change Code.wp _ (Code.seq (hd (sq 5 body27)) (sq 6 body27)) _ _ _
  generalize sq 6 body27 = REST at hK ⊢
  conv => arg 2; arg 1; whnf
  go_wp2
  refine wp_region_vals (a1 := ?a1r7n1) (grown _) [.pointer (some ⟨g, 2, none⟩), .int .u64 (M : Int), .pointer (some ⟨g, 3, none⟩), .int .i64 X, .int .i64 nX, .int .u64 (Q0 : Int), .pointer (some ⟨g, 3, none⟩), .int .i64 X, .int .i64 nX, .int .u64 (WH : Int), .int .u64 (WH : Int)] 41 rfl (by kernel_rfl) (by kernel_rfl) (grown_start _) ⟨?o0r7n1, ?o1r7n1, ?o2r7n1, ?o3r7n1, ?o4r7n1, ?o5r7n1, ?o6r7n1, ?o7r7n1, ?o8r7n1, ?o9r7n1, ?o10r7n1, trivial⟩ ?har7n1 ?hdoner7n1
  case har7n1 => simp [putAll, Act.put]; exact rfl
  case o0r7n1 => exact ValOp.pure (grown_steady _ 0) [(4, .pointer (some ⟨g, 0, none⟩))] rfl (fun _ _ h2 => ⟨(h2 4 (by kernel_rfl)).trans rfl, trivial⟩) (by kernel_rfl) (fun _ _ _ _ _ => by kernel_rfl)
  case o1r7n1 => exact ValOp.pure (grown_steady _ 1) [(20, .pointer (some ⟨g, 2, none⟩))] rfl (fun _ h1 _ => ⟨h1 0 20 (by kernel_rfl), trivial⟩) (by kernel_rfl) (fun _ _ _ hg _ => run_read rfl rfl (run_cell (below_at hr.out hg) rfl (Try.isAgg22 _)))
  case o2r7n1 => exact ValOp.pure (grown_steady _ 2) [(4, .pointer (some ⟨g, 0, none⟩))] rfl (fun _ _ h2 => ⟨(h2 4 (by kernel_rfl)).trans rfl, trivial⟩) (by kernel_rfl) (fun _ _ _ _ _ => by kernel_rfl)
  case o3r7n1 => exact ValOp.pure (grown_steady _ 3) [(22, .pointer (some ⟨g, 3, none⟩))] rfl (fun _ h1 _ => ⟨h1 2 22 (by kernel_rfl), trivial⟩) (by kernel_rfl) (fun _ _ _ hg _ => run_read rfl rfl (run_cell (below_at hr.out hg) rfl (Try.isAgg3 _)))
  case o4r7n1 => exact ValOp.pure (grown_steady _ 4) [(23, .int .i64 X)] rfl (fun _ h1 _ => ⟨h1 3 23 (by kernel_rfl), trivial⟩) (by kernel_rfl) (fun _ _ _ _ _ => run_neg rfl rfl hn)
  case o5r7n1 => exact ValOp.pure (grown_steady _ 5) [(21, .int .u64 (M : Int)), (24, .int .i64 nX)] rfl (fun _ h1 _ => ⟨h1 1 21 (by kernel_rfl), h1 4 24 (by kernel_rfl), trivial⟩) (by kernel_rfl) (fun _ _ _ _ _ => run_bin (a := .int .u64 (M : Int)) (b := .int .i64 nX) rfl rfl rfl (by kernel_rfl) (by simp only [binOp, h1]; rfl))
  case o6r7n1 => exact ValOp.pure (grown_steady _ 6) [(4, .pointer (some ⟨g, 0, none⟩))] rfl (fun _ _ h2 => ⟨(h2 4 (by kernel_rfl)).trans rfl, trivial⟩) (by kernel_rfl) (fun _ _ _ _ _ => by kernel_rfl)
  case o7r7n1 => exact ValOp.pure (grown_steady _ 7) [(26, .pointer (some ⟨g, 3, none⟩))] rfl (fun _ h1 _ => ⟨h1 6 26 (by kernel_rfl), trivial⟩) (by kernel_rfl) (fun _ _ _ hg _ => run_read rfl rfl (run_cell (below_at hr.out hg) rfl (Try.isAgg3 _)))
  case o8r7n1 => exact ValOp.pure (grown_steady _ 8) [(27, .int .i64 X)] rfl (fun _ h1 _ => ⟨h1 7 27 (by kernel_rfl), trivial⟩) (by kernel_rfl) (fun _ _ _ _ _ => run_neg rfl rfl hn)
  case o9r7n1 => exact ValOp.pure (grown_steady _ 9) [(25, .int .u64 (Q0 : Int)), (28, .int .i64 nX)] rfl (fun _ h1 _ => ⟨h1 5 25 (by kernel_rfl), h1 8 28 (by kernel_rfl), trivial⟩) (by kernel_rfl) (fun _ _ _ _ _ => run_bin (a := .int .u64 (Q0 : Int)) (b := .int .i64 nX) rfl rfl rfl (by kernel_rfl) (by simp only [binOp, h2]; rfl))
  case o10r7n1 => exact ValOp.pure (grown_steady _ 10) [(29, .int .u64 (WH : Int))] rfl (fun _ h1 _ => ⟨h1 9 29 (by kernel_rfl), trivial⟩) (by kernel_rfl) (fun _ _ _ _ _ => by kernel_rfl)
  intro w1 s1 _ bb
  have hr1 : Hid (w1.heap[g]? = some (.cells #[.int .i64 kd, .bool ng, .int .u64 (M : Int), .int .i64 X, .bool qu, .int .u64 (LD : Int)] 66 (0, 0))) := below_at r.out (show Below _ _ w1 from bb)
  have hr3 : Hid (w1.heap[g2]? = some (.cells #[.int .i64 0, .bool ng, .int .u64 ((0 : Nat) : Int), .int .i64 X, .bool qu, .int .u64 (LD : Int)] 66 (0, 0))) := below_at r2.out (show Below _ _ w1 from bb)
  have B1 : Hid (Below _ w w1) := show Below _ _ w1 from bb
  have fz : ∀ i, w1.frozen? ⟨g, i, none⟩ = false := fun i => froz hr1.out
  have fz2 : ∀ i, w1.frozen? ⟨g2, i, none⟩ = false := fun i => froz hr3.out
  clear bb m0 m1 m2 m3 m4 m5 r r2 hr hr2 h1 h2
  obtain ⟨m0, m1, m2, m3, m4, m5⟩ := cells6 hr1.out
  obtain ⟨n0, n1, n2, n3, n4, n5⟩ := cells6 hr3.out
  have hne := hg12.out.1
  go_wp2
  obtain ⟨_, hB1, hB2, hB3⟩ := hg12.out
  refine hK.out _ _ ?_ ?_ ?_ ⟨rfl, rfl, rfl, rfl, trivial⟩
  · exact (((B1.out.mono hB3).setCell (p := ⟨g2, 2, none⟩) hB2 _).setCell (p := ⟨g, 2, none⟩) hB1 _)
  · exact set_at _ (set_other _ hne hr1.out)
  · exact set_other _ (fun h => hne h.symm) (set_at _ hr3.out)
set_option maxRecDepth 100000 in
set_option maxHeartbeats 2000000 in
theorem mo_n {Q : Exit → Act → World → Prop} (kd X : Int) (ng qu : Bool) (M LD : Nat) (g g2 : Nat) (a : Act) (w : World) (r : Hid (w.heap[g]? = some (.cells #[.int .i64 kd, .bool ng, .int .u64 (M : Int), .int .i64 X, .bool qu, .int .u64 (LD : Int)] 66 (0, 0)))) (h : ¬ X < 0) (hK : Hid (∀ a, At 41 [(4, .pointer (some ⟨g, 0, none⟩)), (5, .pointer (some ⟨g2, 0, none⟩))] a → Code.wp Try.prog (sq 6 body27) Q a w)) (ha : At 41 [(4, .pointer (some ⟨g, 0, none⟩)), (5, .pointer (some ⟨g2, 0, none⟩))] a) : Code.wp Try.prog (sq 5 body27) Q a w := by
  obtain ⟨m0, m1, m2, m3, m4, m5⟩ := cells6 r.out
  obtain ⟨f, rfl, h4, h5, -⟩ := ha.lit
  change Code.wp _ _ _ ⟨#[f 0, f 1, f 2, f 3, f 4, f 5, f 6, f 7, f 8, f 9, f 10, f 11, f 12, f 13, f 14, f 15, f 16, f 17, f 18, f 19, f 20, f 21, f 22, f 23, f 24, f 25, f 26, f 27, f 28, f 29, f 30, f 31, f 32, f 33, f 34, f 35, f 36, f 37, f 38, f 39, f 40], []⟩ _
  simp only at h4 h5
  simp only [h4, h5]
  clear h4 h5
  change Code.wp _ (Code.seq (hd (sq 5 body27)) (sq 6 body27)) _ _ _
  generalize sq 6 body27 = REST at hK ⊢
  conv => arg 2; arg 1; whnf
  go_wp2
  exact hK.out _ ⟨rfl, rfl, rfl, rfl, trivial⟩
set_option maxRecDepth 100000 in
set_option maxHeartbeats 2000000 in
theorem mo_e (kd X : Int) (ng qu : Bool) (LD : Nat) (g g2 WH RE V1 V2 : Nat) (a : Act) (w0 w : World) (B : Hid (Below w0.heap.size w0 w)) (r : Hid (w.heap[g]? = some (.cells #[.int .i64 kd, .bool ng, .int .u64 (WH : Int), .int .i64 X, .bool qu, .int .u64 (LD : Int)] 66 (0, 0)))) (r2 : Hid (w.heap[g2]? = some (.cells #[.int .i64 0, .bool ng, .int .u64 (RE : Int), .int .i64 X, .bool qu, .int .u64 (LD : Int)] 66 (0, 0)))) (k50 : ∀ w, Calls Try.prog 50 #[.agg #[.int .i64 kd, .bool ng, .int .u64 (WH : Int), .int .i64 X, .bool qu, .int .u64 (LD : Int)]] w fun e w' => e = .returned (.float .f64 V1) ∧ Below w.heap.size w w') (k51 : ∀ w, Calls Try.prog 50 #[.agg #[.int .i64 0, .bool ng, .int .u64 (RE : Int), .int .i64 X, .bool qu, .int .u64 (LD : Int)]] w fun e w' => e = .returned (.float .f64 V2) ∧ Below w.heap.size w w') (ha : At 41 [(4, .pointer (some ⟨g, 0, none⟩)), (5, .pointer (some ⟨g2, 0, none⟩))] a) : Code.wp Try.prog (sq 6 body27) (bodyPost Try.prog Try.f27 fun e w' => e = .returned (.tuple #[.float .f64 V1, .float .f64 V2]) ∧ Below w0.heap.size w0 w') a w := by
  obtain ⟨f, rfl, h4, h5, -⟩ := ha.lit
  change Code.wp _ _ _ ⟨#[f 0, f 1, f 2, f 3, f 4, f 5, f 6, f 7, f 8, f 9, f 10, f 11, f 12, f 13, f 14, f 15, f 16, f 17, f 18, f 19, f 20, f 21, f 22, f 23, f 24, f 25, f 26, f 27, f 28, f 29, f 30, f 31, f 32, f 33, f 34, f 35, f 36, f 37, f 38, f 39, f 40], []⟩ _
  simp only at h4 h5
  simp only [h4, h5]
  clear h4 h5
  conv => arg 2; whnf
  go_wp2
  refine wp_region_vals (a1 := ?a1r10n2) (grown _) [.agg #[.int .i64 kd, .bool ng, .int .u64 (WH : Int), .int .i64 X, .bool qu, .int .u64 (LD : Int)], .float .f64 V1, .agg #[.int .i64 0, .bool ng, .int .u64 (RE : Int), .int .i64 X, .bool qu, .int .u64 (LD : Int)], .float .f64 V2, .float .f64 V1, .float .f64 V2] 41 rfl (by kernel_rfl) (by kernel_rfl) (grown_start _) ⟨?o0r10n2, ?o1r10n2, ?o2r10n2, ?o3r10n2, ?o4r10n2, ?o5r10n2, trivial⟩ ?har10n2 ?hdoner10n2
  case har10n2 => simp [putAll, Act.put]; exact rfl
  case o0r10n2 => exact ValOp.pure (grown_steady _ 0) [(4, .pointer (some ⟨g, 0, none⟩))] rfl (fun _ _ h2 => ⟨(h2 4 (by kernel_rfl)).trans rfl, trivial⟩) (by kernel_rfl) (fun _ _ _ hg _ => run_read rfl rfl (run_loadVar_row _ _ _ _ _ _ _ (below_at r.out hg) Try.underlying66 rfl (by kernel_rfl)))
  case o1r10n2 => exact ValOp.call (grown_steady _ 1) [(37, .agg #[.int .i64 kd, .bool ng, .int .u64 (WH : Int), .int .i64 X, .bool qu, .int .u64 (LD : Int)])] rfl (fun _ h1 _ => ⟨h1 0 37 (by kernel_rfl), trivial⟩) (by kernel_rfl) 50 #[.agg #[.int .i64 kd, .bool ng, .int .u64 (WH : Int), .int .i64 X, .bool qu, .int .u64 (LD : Int)]] (fun _ => by kernel_rfl) (fun _ w _ => k50 w)
  case o2r10n2 => exact ValOp.pure (grown_steady _ 2) [(5, .pointer (some ⟨g2, 0, none⟩))] rfl (fun _ _ h2 => ⟨(h2 5 (by kernel_rfl)).trans rfl, trivial⟩) (by kernel_rfl) (fun _ _ _ hg _ => run_read rfl rfl (run_loadVar_row _ _ _ _ _ _ _ (below_at r2.out hg) Try.underlying66 rfl (by kernel_rfl)))
  case o3r10n2 => exact ValOp.call (grown_steady _ 3) [(39, .agg #[.int .i64 0, .bool ng, .int .u64 (RE : Int), .int .i64 X, .bool qu, .int .u64 (LD : Int)])] rfl (fun _ h1 _ => ⟨h1 2 39 (by kernel_rfl), trivial⟩) (by kernel_rfl) 50 #[.agg #[.int .i64 0, .bool ng, .int .u64 (RE : Int), .int .i64 X, .bool qu, .int .u64 (LD : Int)]] (fun _ => by kernel_rfl) (fun _ w _ => k51 w)
  case o4r10n2 => exact ValOp.pure (grown_steady _ 4) [(38, .float .f64 V1)] rfl (fun _ h1 _ => ⟨h1 1 38 (by kernel_rfl), trivial⟩) (by kernel_rfl) (fun _ _ _ _ _ => by kernel_rfl)
  case o5r10n2 => exact ValOp.pure (grown_steady _ 5) [(40, .float .f64 V2)] rfl (fun _ h1 _ => ⟨h1 3 40 (by kernel_rfl), trivial⟩) (by kernel_rfl) (fun _ _ _ _ _ => by kernel_rfl)
  intro w1 s1 _ bb
  have B1 : Hid (Below w0.heap.size w0 w1) := B.out.trans ((show Below _ _ w1 from bb).mono B.out.size)
  clear bb
  go_wp2
  go_ret2
  exact ⟨rfl, B1.out⟩
theorem shr_is (M j : Nat) (hM : M < 18446744073709551616) : Op.shift .shr .u64 (M : Int) .i64 (j : Int) = pure (.int .u64 ((M / 2 ^ j : Nat) : Int)) := by
  rw [shift_shr_any _ _ _ _ (Int.natCast_nonneg _), Int.toNat_natCast]
  have e : (M : Int) / 2 ^ min j IntKind.u64.bits = ((M / 2 ^ j : Nat) : Int) := by
    rw [show IntKind.u64.bits = 64 from rfl]
    by_cases c : j ≤ 64
    · rw [Nat.min_eq_left c, Int.natCast_ediv, Int.natCast_pow]; rfl
    · have h0 : M / 2 ^ j = 0 := Nat.div_eq_of_lt (Nat.lt_of_lt_of_le hM (Nat.pow_le_pow_right (n := 2) (i := 64) (j := j) (by omega) (by omega)))
      rw [Nat.min_eq_right (by omega), h0]
      have : (2 : Int) ^ 64 = 18446744073709551616 := by decide
      rw [this]
      omega
  rw [e]
theorem shl_is (q j : Nat) (h : q * 2 ^ j < 18446744073709551616) : Op.shift .shl .u64 (q : Int) .i64 (j : Int) = pure (.int .u64 ((q * 2 ^ j : Nat) : Int)) := by
  rw [shift_shl_any _ _ _ _ (Int.natCast_nonneg _), Int.toNat_natCast, show IntKind.u64.bits = 64 from rfl]
  have e : IntKind.u64.wrap ((q : Int) * 2 ^ min j 64) = ((q * 2 ^ j : Nat) : Int) := by
    by_cases c : j ≤ 64
    · rw [Nat.min_eq_left c]
      have : (q : Int) * 2 ^ j = ((q * 2 ^ j : Nat) : Int) := by rw [Int.natCast_mul, Int.natCast_pow]; rfl
      rw [this]
      exact u64_small _ (by omega)
    · have h0 : q = 0 := by
        refine Classical.byContradiction fun hq => ?_
        have h1 : 2 ^ 64 ≤ 2 ^ j := Nat.pow_le_pow_right (by omega) (by omega)
        have h2 : 1 * 2 ^ j ≤ q * 2 ^ j := Nat.mul_le_mul_right _ (by omega)
        omega
      subst h0
      rw [Nat.zero_mul, show ((0 : Nat) : Int) * 2 ^ min j 64 = ((0 : Nat) : Int) from Int.zero_mul _]
      exact u64_small 0 (by omega)
  rw [e]
/-- What stands ahead of the point, and behind it. -/
def modW (x : Pt) (b : Nat) : Nat := if 0 ≤ x.exp then b else (if x.neg = true then 9223372036854775808 else 0) + nearB 52 11 1023 (x.mant / 2 ^ (-x.exp).toNat) 0
def modR (x : Pt) (b : Nat) : Nat := if x.kind = 4 then b else (if x.neg = true then 9223372036854775808 else 0) + (if 0 ≤ x.exp then 0 else nearB 52 11 1023 (x.mant % 2 ^ (-x.exp).toNat) x.exp)
theorem exp_34 (b : Nat) : ((pt 52 11 1023 b).kind = 3 ∨ (pt 52 11 1023 b).kind = 4) → (pt 52 11 1023 b).exp = 0 := by
  unfold pt
  repeat' split
  all_goals (dsimp only; intro h; omega)
set_option maxHeartbeats 1000000 in
theorem modf_any (b : Nat) (w : World) (hb : b < 18446744073709551616) : Calls Try.prog 27 #[.float .f64 b] w fun e w' => e = .returned (.tuple #[.float .f64 (modW (pt 52 11 1023 b) b), .float .f64 (modR (pt 52 11 1023 b) b)]) ∧ Below w.heap.size w w' := by
  have k46 := fun w => Parts_any b w hb
  have h34 := exp_34 b
  have hbk : ¬ (pt 52 11 1023 b).kind = 4 → rndB 52 11 1023 (pt 52 11 1023 b) = b := fun h4 => by
    by_cases h3 : (pt 52 11 1023 b).kind = 3
    · have := inf_back b hb h3
      unfold rndB
      rw [if_neg h4, if_pos h3]
      exact this
    · exact bits_back b hb h3 h4
  obtain ⟨xm, xe1, xe2, xk, xp, xz, xq, xn, xz0, xs0⟩ := pt_range b
  unfold modW modR
  generalize pt 52 11 1023 b = x at *
  obtain ⟨kd, ng, M, X, qu, LD⟩ := x
  unfold Pt.val at k46
  dsimp only at *
  refine mo_a b kd X ng qu M LD w k46 fun a w1 g hg B1 r1 ha => ?_
  by_cases c : kd = 4
  · rw [if_pos c, if_pos (by omega)]
    exact mo_4 b kd X ng qu M LD g a w w1 B1 r1 c ha
  have hbk := hbk c
  rw [if_neg c]
  refine mo_b b kd X ng qu M LD g a w1 r1 (beq_eq_false_iff_ne.2 c) (fun a w2 g2 hg2 B2 r3 ha => ?_) ha
  have r2 := below_at r1 B2
  have hgs : g < w1.heap.size := (Array.getElem?_eq_some_iff.1 r1).1
  have z1 := B1.size
  have z2 := B2.size
  have B12 := B1.trans (B2.mono z1)
  by_cases hX : X < 0
  · rw [if_neg (show ¬ 0 ≤ X by omega), if_neg (show ¬ 0 ≤ X by omega)]
    obtain ⟨j, hj⟩ : ∃ j : Nat, -X = j := ⟨_, (Int.toNat_of_nonneg (by omega)).symm⟩
    rw [hj, Int.toNat_natCast]
    have hdm := Nat.div_add_mod M (2 ^ j)
    have hml : M / 2 ^ j * 2 ^ j ≤ M := Nat.div_mul_le_self _ _
    have hmc : M / 2 ^ j * 2 ^ j + M % 2 ^ j = M := by rw [Nat.mul_comm]; exact hdm
    have h1 := shr_is M j (by omega)
    have h2 := shl_is (M / 2 ^ j) j (by omega)
    have hn : IntKind.i64.wrap (-X) = (j : Int) := by rw [hj]; exact i64_in _ (by omega) (by omega)
    have h3 : IntKind.u64.wrap ((M : Int) - ((M / 2 ^ j * 2 ^ j : Nat) : Int)) = ((M % 2 ^ j : Nat) : Int) := by
      rw [show (M : Int) - ((M / 2 ^ j * 2 ^ j : Nat) : Int) = ((M % 2 ^ j : Nat) : Int) by omega]
      exact u64_small _ (by omega)
    have hk12 : ¬ kd = 3 := by omega
    refine mo_c kd X ng qu M LD g g2 _ _ _ w.heap.size a w2 ⟨by omega, hg, by omega, by omega⟩ r2 r3 hX _ hn h1 h2 h3 (fun a w3 B3 r4 r5 ha => ?_) ha
    have k50 := fun w => number_any ⟨kd, ng, M / 2 ^ j * 2 ^ j, X, qu, LD⟩ w (by show _ * _ < _; omega) (by show _ ≤ X; omega) (by show X ≤ _; omega)
    have k51 := fun w => number_any ⟨0, ng, M % 2 ^ j, X, qu, LD⟩ w (by show _ % _ < _; omega) (by show _ ≤ X; omega) (by show X ≤ _; omega)
    unfold rndB Pt.val at k50 k51
    dsimp only at k50 k51
    rw [if_neg c, if_neg hk12] at k50
    rw [if_neg (show ¬ (0 : Int) = 4 by decide), if_neg (show ¬ (0 : Int) = 3 by decide)] at k51
    have hv : nearB 52 11 1023 (M / 2 ^ j * 2 ^ j) X = nearB 52 11 1023 (M / 2 ^ j) 0 := by
      by_cases z : M / 2 ^ j = 0
      · rw [z, Nat.zero_mul, nearB_nought, nearB_nought]
      · have := nearB_scale 52 11 1023 (M / 2 ^ j) j 0 z (by omega)
        rw [show (0 : Int) - j = X by omega] at this
        exact this
    rw [hv] at k50
    exact mo_e kd X ng qu LD g g2 _ _ _ _ a w w3 (B12.trans B3) r4 r5 k50 k51 ha
  · rw [if_pos (show 0 ≤ X by omega), if_pos (show 0 ≤ X by omega)]
    refine mo_n kd X ng qu M LD g g2 a w2 r2 hX (fun a ha => ?_) ha
    have k50 := fun w => number_any ⟨kd, ng, M, X, qu, LD⟩ w (by show M < _; omega) (by show _ ≤ X; omega) (by show X ≤ _; omega)
    have k51 := fun w => number_any ⟨0, ng, 0, X, qu, LD⟩ w (by show 0 < _; omega) (by show _ ≤ X; omega) (by show X ≤ _; omega)
    rw [hbk] at k50
    unfold Pt.val at k50 k51
    unfold rndB at k51
    dsimp only at k50 k51
    rw [if_neg (show ¬ (0 : Int) = 4 by decide), if_neg (show ¬ (0 : Int) = 3 by decide), nearB_nought] at k51
    exact mo_e kd X ng qu LD g g2 M 0 _ _ a w w2 B12 r2 r3 k50 k51 ha
end Go.Proofs.Ytjcjecbffnadaab
