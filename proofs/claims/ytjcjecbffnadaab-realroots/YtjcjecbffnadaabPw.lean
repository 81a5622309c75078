/-
  The contracts of Power, the code's and the document's. Condition: the float's bits fit.
-/
import Derived.Test.YtjcjecbffnadaabRd1
import Derived.Test.YtjcjecbffnadaabLawW
import Derived.Deep.LoopGhost
import Derived.BigRegion
namespace Go.Proofs.Ytjcjecbffnadaab
open Go.RowKit
noncomputable def body29 : Code := Try.f29.body.getD .skip
noncomputable def body30 : Code := Try.f30.body.getD .skip
set_option maxRecDepth 100000 in
set_option maxHeartbeats 2000000 in
theorem pw_a {Q : Ending → World → Prop} (b : Nat) (kd X : Int) (ng qu : Bool) (M LD : Nat) (w : World) (k46 : ∀ w, Calls Try.prog 46 #[.float .f64 b] w fun e w' => e = .returned (.agg #[.int .i64 kd, .bool ng, .int .u64 (M : Int), .int .i64 X, .bool qu, .int .u64 (LD : Int)]) ∧ Below w.heap.size w w')
    (hK : Hid (∀ a w' g, Below w.heap.size w w' → w'.heap[g]? = some (.cells #[.int .i64 kd, .bool ng, .int .u64 (M : Int), .int .i64 X, .bool qu, .int .u64 (LD : Int)] 66 (0, 0)) → At 22 [(4, .pointer (some ⟨g, 0, none⟩))] a → Code.wp Try.prog (sq 2 body29) (bodyPost Try.prog Try.f29 Q) a w')) : Calls Try.prog 29 #[.float .f64 b] w Q := by
  go_enter Try.func29, Try.ntmps29
  change Code.wp _ (Code.seq (hd (sq 0 body29)) (Code.seq (hd (sq 1 body29)) (sq 2 body29))) _ _ _
  generalize sq 2 body29 = REST at hK ⊢
  conv => arg 2; arg 1; whnf
  conv => arg 2; arg 2; arg 1; whnf
  go_wp2_with (go_at_call 46; refine (k46 _).mono ?_)
  intro e1 w1 hq
  first | (obtain ⟨rfl, b1⟩ : _ ∧ _ := hq) | (subst hq; intro b1)
  have B1 : Hid (Below w.heap.size w (w1.alloc (.cells #[.int .i64 kd, .bool ng, .int .u64 (M : Int), .int .i64 X, .bool qu, .int .u64 (LD : Int)] 66))) := b1.alloc b1.size _
  have r1 : Hid ((w1.alloc (.cells #[.int .i64 kd, .bool ng, .int .u64 (M : Int), .int .i64 X, .bool qu, .int .u64 (LD : Int)] 66)).heap[w1.heap.size]? = some (.cells #[.int .i64 kd, .bool ng, .int .u64 (M : Int), .int .i64 X, .bool qu, .int .u64 (LD : Int)] 66 (0, 0))) := heap_alloc_last _ _
  clear b1
  go_wp2
  exact hK.out _ _ _ B1.out r1.out ⟨rfl, rfl, rfl, trivial⟩
set_option maxRecDepth 100000 in
set_option maxHeartbeats 2000000 in
theorem pw_x (kd X : Int) (ng qu : Bool) (M LD : Nat) (g : Nat) (a : Act) (w0 w : World) (B : Hid (Below w0.heap.size w0 w)) (r : Hid (w.heap[g]? = some (.cells #[.int .i64 kd, .bool ng, .int .u64 (M : Int), .int .i64 X, .bool qu, .int .u64 (LD : Int)] 66 (0, 0))))  (k57 : ∀ w, Calls Try.prog 57 #[.agg #[.int .i64 kd, .bool ng, .int .u64 (M : Int), .int .i64 X, .bool qu, .int .u64 (LD : Int)]] w fun e w' => e = .returned (.bool false) ∧ Below w.heap.size w w') (ha : At 22 [(4, .pointer (some ⟨g, 0, none⟩))] a) : Code.wp Try.prog (sq 2 body29) (bodyPost Try.prog Try.f29 fun e w' => e = .returned (.tuple #[.int .i64 0, .bool false]) ∧ Below w0.heap.size w0 w') a w := by
  obtain ⟨n0, n1, n2, n3, n4, n5⟩ := cells6 r.out
  obtain ⟨f, rfl, h4, -⟩ := ha.lit
  change Code.wp _ _ _ ⟨#[f 0, f 1, f 2, f 3, f 4, f 5, f 6, f 7, f 8, f 9, f 10, f 11, f 12, f 13, f 14, f 15, f 16, f 17, f 18, f 19, f 20, f 21], []⟩ _
  simp only at h4
  simp only [h4]
  clear h4
  conv => arg 2; whnf
  go_wp2_with (go_at_call 57; refine (k57 _).mono ?_)
  intro e1 w1 hq
  first | (obtain ⟨rfl, b1⟩ : _ ∧ _ := hq) | (subst hq; intro b1)
  clear n0 n1 n2 n3 n4 n5
  have r1 := below_at r.out b1
  obtain ⟨m0, m1, m2, m3, m4, m5⟩ := cells6 r1
  have hr1 := show Hid _ from r1
  have B1 : Hid (Below w0.heap.size w0 w1) := B.out.trans (b1.mono B.out.size)
  clear b1 r1
  go_wp2
  go_ret2
  exact ⟨rfl, B1.out⟩
set_option maxRecDepth 100000 in
set_option maxHeartbeats 2000000 in
theorem pw_z (kd X : Int) (ng qu : Bool) (M LD : Nat) (g : Nat) (a : Act) (w0 w : World) (B : Hid (Below w0.heap.size w0 w)) (r : Hid (w.heap[g]? = some (.cells #[.int .i64 kd, .bool ng, .int .u64 (M : Int), .int .i64 X, .bool qu, .int .u64 (LD : Int)] 66 (0, 0)))) (h : M = 0) (k57 : ∀ w, Calls Try.prog 57 #[.agg #[.int .i64 kd, .bool ng, .int .u64 (M : Int), .int .i64 X, .bool qu, .int .u64 (LD : Int)]] w fun e w' => e = .returned (.bool true) ∧ Below w.heap.size w w') (ha : At 22 [(4, .pointer (some ⟨g, 0, none⟩))] a) : Code.wp Try.prog (sq 2 body29) (bodyPost Try.prog Try.f29 fun e w' => e = .returned (.tuple #[.int .i64 0, .bool false]) ∧ Below w0.heap.size w0 w') a w := by
  subst h
  obtain ⟨n0, n1, n2, n3, n4, n5⟩ := cells6 r.out
  obtain ⟨f, rfl, h4, -⟩ := ha.lit
  change Code.wp _ _ _ ⟨#[f 0, f 1, f 2, f 3, f 4, f 5, f 6, f 7, f 8, f 9, f 10, f 11, f 12, f 13, f 14, f 15, f 16, f 17, f 18, f 19, f 20, f 21], []⟩ _
  simp only at h4
  simp only [h4]
  clear h4
  conv => arg 2; whnf
  go_wp2_with (go_at_call 57; refine (k57 _).mono ?_)
  intro e1 w1 hq
  first | (obtain ⟨rfl, b1⟩ : _ ∧ _ := hq) | (subst hq; intro b1)
  clear n0 n1 n2 n3 n4 n5
  have r1 := below_at r.out b1
  obtain ⟨m0, m1, m2, m3, m4, m5⟩ := cells6 r1
  have hr1 := show Hid _ from r1
  have B1 : Hid (Below w0.heap.size w0 w1) := B.out.trans (b1.mono B.out.size)
  clear b1 r1
  go_wp2
  go_ret2
  exact ⟨rfl, B1.out⟩
set_option maxRecDepth 100000 in
set_option maxHeartbeats 2000000 in
theorem pw_g (kd X : Int) (ng qu : Bool) (M LD : Nat) (g LN : Nat) (Y Z : Int) (a : Act) (w0 w : World) (B : Hid (Below w0.heap.size w0 w)) (r : Hid (w.heap[g]? = some (.cells #[.int .i64 kd, .bool ng, .int .u64 (M : Int), .int .i64 X, .bool qu, .int .u64 (LD : Int)] 66 (0, 0)))) (h : ((M : Int) == 0) = false) (hY : IntKind.i64.wrap (X + (LN : Int)) = Y) (hZ : IntKind.i64.wrap (Y - 1) = Z) (k57 : ∀ w, Calls Try.prog 57 #[.agg #[.int .i64 kd, .bool ng, .int .u64 (M : Int), .int .i64 X, .bool qu, .int .u64 (LD : Int)]] w fun e w' => e = .returned (.bool true) ∧ Below w.heap.size w w') (k58 : ∀ w, Calls Try.prog 58 #[.int .u64 (M : Int)] w fun e w' => e = .returned (.int .i64 (LN : Nat)) ∧ Below w.heap.size w w') (ha : At 22 [(4, .pointer (some ⟨g, 0, none⟩))] a) : Code.wp Try.prog (sq 2 body29) (bodyPost Try.prog Try.f29 fun e w' => e = .returned (.tuple #[.int .i64 Z, .bool true]) ∧ Below w0.heap.size w0 w') a w := by
  obtain ⟨n0, n1, n2, n3, n4, n5⟩ := cells6 r.out
  obtain ⟨f, rfl, h4, -⟩ := ha.lit
  change Code.wp _ _ _ ⟨#[f 0, f 1, f 2, f 3, f 4, f 5, f 6, f 7, f 8, f 9, f 10, f 11, f 12, f 13, f 14, f 15, f 16, f 17, f 18, f 19, f 20, f 21], []⟩ _
  simp only at h4
  simp only [h4]
  clear h4
  conv => arg 2; whnf
  go_wp2_with (go_at_call 57; refine (k57 _).mono ?_)
  intro e1 w1 hq
  first | (obtain ⟨rfl, b1⟩ : _ ∧ _ := hq) | (subst hq; intro b1)
  clear n0 n1 n2 n3 n4 n5
  have r1 := below_at r.out b1
  obtain ⟨m0, m1, m2, m3, m4, m5⟩ := cells6 r1
  have hr1 := show Hid _ from r1
  have B1 : Hid (Below w0.heap.size w0 w1) := B.out.trans (b1.mono B.out.size)
  clear b1 r1
  go_wp2
  clear m0 m1 m2 m3 m4 m5
  refine wp_region_vals (a1 := ?a1r4n1) (grown _) [.pointer (some ⟨g, 3, none⟩), .int .i64 X, .pointer (some ⟨g, 2, none⟩), .int .u64 (M : Int), .int .i64 (LN : Nat), .int .i64 Y, .int .i64 Z, .int .i64 Z, .bool true] 22 rfl (by kernel_rfl) (by kernel_rfl) (grown_start _) ⟨?o0r4n1, ?o1r4n1, ?o2r4n1, ?o3r4n1, ?o4r4n1, ?o5r4n1, ?o6r4n1, ?o7r4n1, ?o8r4n1, trivial⟩ ?har4n1 ?hdoner4n1
  case har4n1 => simp [putAll, Act.put]; exact rfl
  case o0r4n1 => exact ValOp.pure (grown_steady _ 0) [(4, .pointer (some ⟨g, 0, none⟩))] rfl (fun _ _ h2 => ⟨(h2 4 (by kernel_rfl)).trans rfl, trivial⟩) (by kernel_rfl) (fun _ _ _ _ _ => by kernel_rfl)
  case o1r4n1 => exact ValOp.pure (grown_steady _ 1) [(15, .pointer (some ⟨g, 3, none⟩))] rfl (fun _ h1 _ => ⟨h1 0 15 (by kernel_rfl), trivial⟩) (by kernel_rfl) (fun _ _ _ hg _ => run_read rfl rfl (run_cell (below_at hr1.out hg) rfl (Try.isAgg3 _)))
  case o2r4n1 => exact ValOp.pure (grown_steady _ 2) [(4, .pointer (some ⟨g, 0, none⟩))] rfl (fun _ _ h2 => ⟨(h2 4 (by kernel_rfl)).trans rfl, trivial⟩) (by kernel_rfl) (fun _ _ _ _ _ => by kernel_rfl)
  case o3r4n1 => exact ValOp.pure (grown_steady _ 3) [(17, .pointer (some ⟨g, 2, none⟩))] rfl (fun _ h1 _ => ⟨h1 2 17 (by kernel_rfl), trivial⟩) (by kernel_rfl) (fun _ _ _ hg _ => run_read rfl rfl (run_cell (below_at hr1.out hg) rfl (Try.isAgg22 _)))
  case o4r4n1 => exact ValOp.call (grown_steady _ 4) [(18, .int .u64 (M : Int))] rfl (fun _ h1 _ => ⟨h1 3 18 (by kernel_rfl), trivial⟩) (by kernel_rfl) 58 #[.int .u64 (M : Int)] (fun _ => by kernel_rfl) (fun _ w _ => k58 w)
  case o5r4n1 => exact ValOp.pure (grown_steady _ 5) [(16, .int .i64 X), (19, .int .i64 (LN : Nat))] rfl (fun _ h1 _ => ⟨h1 1 16 (by kernel_rfl), h1 4 19 (by kernel_rfl), trivial⟩) (by kernel_rfl) (fun _ _ _ _ _ => run_bin (a := .int .i64 X) (b := .int .i64 (LN : Nat)) rfl rfl rfl (by kernel_rfl) (by simp [go_sem, hY]))
  case o6r4n1 => exact ValOp.pure (grown_steady _ 6) [(20, .int .i64 Y)] rfl (fun _ h1 _ => ⟨h1 5 20 (by kernel_rfl), trivial⟩) (by kernel_rfl) (fun _ _ _ _ _ => run_bin (a := .int .i64 Y) (b := .int .i64 1) rfl rfl rfl (by kernel_rfl) (by simp [go_sem, hZ]))
  case o7r4n1 => exact ValOp.pure (grown_steady _ 7) [(21, .int .i64 Z)] rfl (fun _ h1 _ => ⟨h1 6 21 (by kernel_rfl), trivial⟩) (by kernel_rfl) (fun _ _ _ _ _ => by kernel_rfl)
  case o8r4n1 => exact ValOp.pure (grown_steady _ 8) [] rfl (fun _ _ _ => trivial) (by kernel_rfl) (fun _ _ _ _ _ => by kernel_rfl)
  intro w2 s2 _ bb
  have B2 : Hid (Below w0.heap.size w0 w2) := B1.out.trans ((show Below _ _ w2 from bb).mono B1.out.size)
  clear bb
  go_wp2
  go_ret2
  exact ⟨rfl, B2.out⟩
set_option maxRecDepth 100000 in
set_option maxHeartbeats 2000000 in
theorem rp_a {Q : Ending → World → Prop} (b : Nat) (kd X : Int) (ng qu : Bool) (M LD : Nat) (w : World) (k11 : ∀ w, Calls Try.prog 11 #[.int .u64 (b : Int), .agg #[.int .i64 52, .int .i64 2047, .int .i64 1023]] w fun e w' => e = .returned (.agg #[.int .i64 kd, .bool ng, .int .u64 (M : Int), .int .i64 X, .bool qu, .int .u64 (LD : Int)]) ∧ Below w.heap.size w w')
    (hK : Hid (∀ a w' g, Below w.heap.size w w' → w'.heap[g]? = some (.cells #[.int .i64 kd, .bool ng, .int .u64 (M : Int), .int .i64 X, .bool qu, .int .u64 (LD : Int)] 27 (0, 0)) → At 29 [(4, .pointer (some ⟨g, 0, none⟩))] a → Code.wp Try.prog (sq 2 body30) (bodyPost Try.prog Try.f30 Q) a w')) : Calls Try.prog 30 #[.int .u64 (b : Int)] w Q := by
  have k12 := k16l
  unfold k16L at k12
  go_enter Try.func30, Try.ntmps30
  change Code.wp _ (Code.seq (hd (sq 0 body30)) (Code.seq (hd (sq 1 body30)) (sq 2 body30))) _ _ _
  generalize sq 2 body30 = REST at hK ⊢
  conv => arg 2; arg 1; whnf
  conv => arg 2; arg 2; arg 1; whnf
  go_wp2_with (go_at_call 12; refine (k12 _).mono ?_)
  intro e1 w1 hq
  first | (obtain ⟨rfl, b1⟩ : _ ∧ _ := hq) | (subst hq; intro b1)
  go_wp2_with (go_at_call 11; refine (k11 _).mono ?_)
  intro e2 w2 hq
  first | (obtain ⟨rfl, b2⟩ : _ ∧ _ := hq) | (subst hq; intro b2)
  have B0 : Below w.heap.size w w2 := b1.trans (b2.mono b1.size)
  have B1 : Hid (Below w.heap.size w (w2.alloc (.cells #[.int .i64 kd, .bool ng, .int .u64 (M : Int), .int .i64 X, .bool qu, .int .u64 (LD : Int)] 27))) := B0.alloc B0.size _
  have r1 : Hid ((w2.alloc (.cells #[.int .i64 kd, .bool ng, .int .u64 (M : Int), .int .i64 X, .bool qu, .int .u64 (LD : Int)] 27)).heap[w2.heap.size]? = some (.cells #[.int .i64 kd, .bool ng, .int .u64 (M : Int), .int .i64 X, .bool qu, .int .u64 (LD : Int)] 27 (0, 0))) := heap_alloc_last _ _
  clear b1 b2 B0
  go_wp2
  exact hK.out _ _ _ B1.out r1.out ⟨rfl, rfl, rfl, trivial⟩
set_option maxRecDepth 100000 in
set_option maxHeartbeats 2000000 in
theorem rp_0 (kd X : Int) (ng qu : Bool) (M LD : Nat) (g : Nat) (a : Act) (w0 w : World) (B : Hid (Below w0.heap.size w0 w)) (r : Hid (w.heap[g]? = some (.cells #[.int .i64 kd, .bool ng, .int .u64 (M : Int), .int .i64 X, .bool qu, .int .u64 (LD : Int)] 27 (0, 0)))) (h : kd = 0) (ha : At 29 [(4, .pointer (some ⟨g, 0, none⟩))] a) : Code.wp Try.prog (sq 2 body30) (bodyPost Try.prog Try.f30 fun e w' => e = .returned (.tuple #[.int .i64 0, .bool false]) ∧ Below w0.heap.size w0 w') a w := by
  subst h
  obtain ⟨m0, m1, m2, m3, m4, m5⟩ := cells6 r.out
  obtain ⟨f, rfl, h4, -⟩ := ha.lit
  change Code.wp _ _ _ ⟨#[f 0, f 1, f 2, f 3, f 4, f 5, f 6, f 7, f 8, f 9, f 10, f 11, f 12, f 13, f 14, f 15, f 16, f 17, f 18, f 19, f 20, f 21, f 22, f 23, f 24, f 25, f 26, f 27, f 28], []⟩ _
  simp only at h4
  simp only [h4]
  clear h4
  conv => arg 2; whnf
  go_wp2
  go_ret2
  exact ⟨rfl, B.out⟩
set_option maxRecDepth 100000 in
set_option maxHeartbeats 2000000 in
theorem rp_3 (kd X : Int) (ng qu : Bool) (M LD : Nat) (g : Nat) (a : Act) (w0 w : World) (B : Hid (Below w0.heap.size w0 w)) (r : Hid (w.heap[g]? = some (.cells #[.int .i64 kd, .bool ng, .int .u64 (M : Int), .int .i64 X, .bool qu, .int .u64 (LD : Int)] 27 (0, 0)))) (h : kd = 3) (ha : At 29 [(4, .pointer (some ⟨g, 0, none⟩))] a) : Code.wp Try.prog (sq 2 body30) (bodyPost Try.prog Try.f30 fun e w' => e = .returned (.tuple #[.int .i64 0, .bool false]) ∧ Below w0.heap.size w0 w') a w := by
  subst h
  obtain ⟨m0, m1, m2, m3, m4, m5⟩ := cells6 r.out
  obtain ⟨f, rfl, h4, -⟩ := ha.lit
  change Code.wp _ _ _ ⟨#[f 0, f 1, f 2, f 3, f 4, f 5, f 6, f 7, f 8, f 9, f 10, f 11, f 12, f 13, f 14, f 15, f 16, f 17, f 18, f 19, f 20, f 21, f 22, f 23, f 24, f 25, f 26, f 27, f 28], []⟩ _
  simp only at h4
  simp only [h4]
  clear h4
  conv => arg 2; whnf
  go_wp2
  go_ret2
  exact ⟨rfl, B.out⟩
set_option maxRecDepth 100000 in
set_option maxHeartbeats 2000000 in
theorem rp_4 (kd X : Int) (ng qu : Bool) (M LD : Nat) (g : Nat) (a : Act) (w0 w : World) (B : Hid (Below w0.heap.size w0 w)) (r : Hid (w.heap[g]? = some (.cells #[.int .i64 kd, .bool ng, .int .u64 (M : Int), .int .i64 X, .bool qu, .int .u64 (LD : Int)] 27 (0, 0)))) (h : kd = 4) (ha : At 29 [(4, .pointer (some ⟨g, 0, none⟩))] a) : Code.wp Try.prog (sq 2 body30) (bodyPost Try.prog Try.f30 fun e w' => e = .returned (.tuple #[.int .i64 0, .bool false]) ∧ Below w0.heap.size w0 w') a w := by
  subst h
  obtain ⟨m0, m1, m2, m3, m4, m5⟩ := cells6 r.out
  obtain ⟨f, rfl, h4, -⟩ := ha.lit
  change Code.wp _ _ _ ⟨#[f 0, f 1, f 2, f 3, f 4, f 5, f 6, f 7, f 8, f 9, f 10, f 11, f 12, f 13, f 14, f 15, f 16, f 17, f 18, f 19, f 20, f 21, f 22, f 23, f 24, f 25, f 26, f 27, f 28], []⟩ _
  simp only at h4
  simp only [h4]
  clear h4
  conv => arg 2; whnf
  go_wp2
  go_ret2
  exact ⟨rfl, B.out⟩
set_option maxRecDepth 100000 in
set_option maxHeartbeats 2000000 in
theorem rp_1 {Q : Exit → Act → World → Prop} (kd X : Int) (ng qu : Bool) (M LD : Nat) (g : Nat) (a : Act) (w : World) (r : Hid (w.heap[g]? = some (.cells #[.int .i64 kd, .bool ng, .int .u64 (M : Int), .int .i64 X, .bool qu, .int .u64 (LD : Int)] 27 (0, 0)))) (h : kd = 1) (hK : Hid (∀ a, At 29 [(4, .pointer (some ⟨g, 0, none⟩)), (5, .int .i64 X)] a → Code.wp Try.prog (sq 4 body30) Q a w)) (ha : At 29 [(4, .pointer (some ⟨g, 0, none⟩))] a) : Code.wp Try.prog (sq 2 body30) Q a w := by
  subst h
  obtain ⟨m0, m1, m2, m3, m4, m5⟩ := cells6 r.out
  obtain ⟨f, rfl, h4, -⟩ := ha.lit
  change Code.wp _ _ _ ⟨#[f 0, f 1, f 2, f 3, f 4, f 5, f 6, f 7, f 8, f 9, f 10, f 11, f 12, f 13, f 14, f 15, f 16, f 17, f 18, f 19, f 20, f 21, f 22, f 23, f 24, f 25, f 26, f 27, f 28], []⟩ _
  simp only at h4
  simp only [h4]
  clear h4
  change Code.wp _ (Code.seq (hd (sq 2 body30)) (Code.seq (hd (sq 3 body30)) (sq 4 body30))) _ _ _
  generalize sq 4 body30 = REST at hK ⊢
  conv => arg 2; arg 1; whnf
  conv => arg 2; arg 2; arg 1; whnf
  go_wp2
  exact hK.out _ ⟨rfl, rfl, rfl, rfl, trivial⟩
set_option maxRecDepth 100000 in
set_option maxHeartbeats 2000000 in
theorem rp_2 {Q : Exit → Act → World → Prop} (kd X : Int) (ng qu : Bool) (M LD : Nat) (g : Nat) (a : Act) (w : World) (r : Hid (w.heap[g]? = some (.cells #[.int .i64 kd, .bool ng, .int .u64 (M : Int), .int .i64 X, .bool qu, .int .u64 (LD : Int)] 27 (0, 0)))) (h : kd = 2) (hK : Hid (∀ a, At 29 [(4, .pointer (some ⟨g, 0, none⟩)), (5, .int .i64 X)] a → Code.wp Try.prog (sq 4 body30) Q a w)) (ha : At 29 [(4, .pointer (some ⟨g, 0, none⟩))] a) : Code.wp Try.prog (sq 2 body30) Q a w := by
  subst h
  obtain ⟨m0, m1, m2, m3, m4, m5⟩ := cells6 r.out
  obtain ⟨f, rfl, h4, -⟩ := ha.lit
  change Code.wp _ _ _ ⟨#[f 0, f 1, f 2, f 3, f 4, f 5, f 6, f 7, f 8, f 9, f 10, f 11, f 12, f 13, f 14, f 15, f 16, f 17, f 18, f 19, f 20, f 21, f 22, f 23, f 24, f 25, f 26, f 27, f 28], []⟩ _
  simp only at h4
  simp only [h4]
  clear h4
  change Code.wp _ (Code.seq (hd (sq 2 body30)) (Code.seq (hd (sq 3 body30)) (sq 4 body30))) _ _ _
  generalize sq 4 body30 = REST at hK ⊢
  conv => arg 2; arg 1; whnf
  conv => arg 2; arg 2; arg 1; whnf
  go_wp2
  exact hK.out _ ⟨rfl, rfl, rfl, rfl, trivial⟩
set_option maxRecDepth 100000 in
set_option maxHeartbeats 2000000 in
theorem rp_l {Q : Exit → Act → World → Prop} (kd X : Int) (ng qu : Bool) (M LD : Nat) (g l : Nat) (a : Act) (w : World) (r : Hid (w.heap[g]? = some (.cells #[.int .i64 kd, .bool ng, .int .u64 (M : Int), .int .i64 X, .bool qu, .int .u64 (LD : Int)] 27 (0, 0)))) (h1 : 2 ^ l ≤ M) (h2 : M < 2 ^ (l + 1)) (hl : (l : Int) ≤ 64) (hX : -20000 ≤ X ∧ X ≤ 20000) (hM : M < 18446744073709551616) (hK : Hid (∀ a, At 29 [(5, .int .i64 (X + l))] a → Code.wp Try.prog (sq 5 body30) Q a w)) (ha : At 29 [(4, .pointer (some ⟨g, 0, none⟩)), (5, .int .i64 X)] a) : Code.wp Try.prog (sq 4 body30) Q a w := by
  obtain ⟨m0, m1, m2, m3, m4, m5⟩ := cells6 r.out
  obtain ⟨f, rfl, h4, h5, -⟩ := ha.lit
  change Code.wp _ _ _ ⟨#[f 0, f 1, f 2, f 3, f 4, f 5, f 6, f 7, f 8, f 9, f 10, f 11, f 12, f 13, f 14, f 15, f 16, f 17, f 18, f 19, f 20, f 21, f 22, f 23, f 24, f 25, f 26, f 27, f 28], []⟩ _
  simp only at h4 h5
  simp only [h4, h5]
  clear h4 h5
  change Code.wp _ (Code.seq (hd (sq 4 body30)) (sq 5 body30)) _ _ _
  generalize sq 5 body30 = REST at hK ⊢
  conv => arg 2; arg 1; whnf
  obtain ⟨hXa, hXb⟩ := hX
  have hh := show Hid _ from And.intro h1 h2
  clear h1 h2
  go_wp2
  refine wp_loop_ghost_k (fun m a w' => ∃ i : Nat, i ≤ l ∧ m = l - i ∧ At 29 [(5, .int .i64 (X + i)), (6, .int .u64 ((M / 2 ^ i : Nat) : Int))] a ∧ w' = w) l ⟨0, Nat.zero_le _, rfl, by rw [Nat.pow_zero, Nat.div_one, show X + ((0 : Nat) : Int) = X by omega]; exact ⟨rfl, rfl, rfl, rfl, trivial⟩, rfl⟩ ?_
  obtain ⟨h1, h2⟩ := hh.out
  rintro m a w' ⟨i, hi, rfl, ha, rfl⟩ J0 K1 hJ hK1
  have hal : M / 2 ^ i < 18446744073709551616 := Nat.lt_of_le_of_lt (Nat.div_le_self _ _) hM
  by_cases c : i < l
  · have hnew : M / 2 ^ (i + 1) = M / 2 ^ i / 2 := by rw [Nat.pow_succ, Nat.div_div_eq_div_mul]
    have hdiv : ((M / 2 ^ i : Nat) : Int).tdiv 2 = ((M / 2 ^ (i + 1) : Nat) : Int) := by
      rw [Int.tdiv_eq_ediv_of_nonneg (Int.natCast_nonneg _), hnew, Int.natCast_ediv]; rfl
    have hwa := u64_small (M / 2 ^ (i + 1)) (by have := Nat.div_le_self M (2 ^ (i + 1)); omega)
    have hbig : 2 ≤ M / 2 ^ i := by
      refine (Nat.le_div_iff_mul_le (Nat.two_pow_pos _)).2 ?_
      have : 2 * 2 ^ i = 2 ^ (i + 1) := by rw [Nat.pow_succ]; omega
      rw [this]
      exact Nat.le_trans (Nat.pow_le_pow_right (by omega) (by omega)) h1
    have hgt : (1 : Int) < ((M / 2 ^ i : Nat) : Int) := by omega
    generalize ha' : M / 2 ^ (i + 1) = a' at *
    generalize M / 2 ^ i = b0 at *
    have ha' := show Hid _ from ha'
    have hyb : -50000 ≤ X + (i : Int) ∧ X + (i : Int) ≤ 50000 := by omega
    obtain ⟨hy1, hy2⟩ := hyb
    generalize hy : X + (i : Int) = y at *
    have hy := show Hid _ from hy
    have hc := show Hid _ from c
    have hJ := show Hid _ from hJ
    clear hnew hi c h1 h2 hh hal hM hbig hK m0 m1 m2 m3 m4 m5 hXa hXb hl
    obtain ⟨f, rfl, h5, h6, -⟩ := ha.lit
    change Code.wp _ _ _ ⟨#[f 0, f 1, f 2, f 3, f 4, f 5, f 6, f 7, f 8, f 9, f 10, f 11, f 12, f 13, f 14, f 15, f 16, f 17, f 18, f 19, f 20, f 21, f 22, f 23, f 24, f 25, f 26, f 27, f 28], []⟩ _
    simp only at h5 h6
    simp only [h5, h6]
    clear h5 h6
    go_wp2
    exact Handed.intro (l - (i + 1)) (by have := hc.out; omega) (hJ.out _ _ _ ⟨i + 1, hc.out, rfl, by rw [ha'.out, show X + ((i + 1 : Nat) : Int) = y + 1 by have := hy.out; omega]; exact ⟨rfl, rfl, rfl, rfl, trivial⟩, rfl⟩)
  · have hil : i = l := by omega
    subst hil
    have h1' : M / 2 ^ i = 1 := by
      have e : 2 ^ (i + 1) = 2 * 2 ^ i := by rw [Nat.pow_succ]; omega
      have q1 : 1 ≤ M / 2 ^ i := (Nat.le_div_iff_mul_le (Nat.two_pow_pos _)).2 (by omega)
      have q2 : M / 2 ^ i < 2 := (Nat.div_lt_iff_lt_mul (Nat.two_pow_pos _)).2 (by omega)
      omega
    rw [h1'] at ha
    clear c hi hJ hK1 h1 h2 hh hal hM m0 m1 m2 m3 m4 m5 hXa hXb hl h1'
    generalize X + (i : Int) = y at *
    obtain ⟨f, rfl, h5, h6, -⟩ := ha.lit
    change Code.wp _ _ _ ⟨#[f 0, f 1, f 2, f 3, f 4, f 5, f 6, f 7, f 8, f 9, f 10, f 11, f 12, f 13, f 14, f 15, f 16, f 17, f 18, f 19, f 20, f 21, f 22, f 23, f 24, f 25, f 26, f 27, f 28], []⟩ _
    simp only at h5 h6
    simp only [h5, h6]
    clear h5 h6
    go_wp2
    exact hK.out _ ⟨rfl, rfl, rfl, trivial⟩
set_option maxRecDepth 100000 in
set_option maxHeartbeats 2000000 in
theorem rp_e (y : Int) (a : Act) (w0 w : World) (B : Hid (Below w0.heap.size w0 w)) (ha : At 29 [(5, .int .i64 y)] a) : Code.wp Try.prog (sq 5 body30) (bodyPost Try.prog Try.f30 fun e w' => e = .returned (.tuple #[.int .i64 y, .bool true]) ∧ Below w0.heap.size w0 w') a w := by
  obtain ⟨f, rfl, h5, -⟩ := ha.lit
  change Code.wp _ _ _ ⟨#[f 0, f 1, f 2, f 3, f 4, f 5, f 6, f 7, f 8, f 9, f 10, f 11, f 12, f 13, f 14, f 15, f 16, f 17, f 18, f 19, f 20, f 21, f 22, f 23, f 24, f 25, f 26, f 27, f 28], []⟩ _
  simp only at h5
  simp only [h5]
  clear h5
  conv => arg 2; whnf
  go_wp2
  go_ret2
  exact ⟨rfl, B.out⟩
/-- The greatest power of two that is not above. -/
def powV (x : Pt) : Value := if x.kind = 1 ∨ x.kind = 2 then .tuple #[.int .i64 (x.exp + (Lib.bitLen x.mant : Nat) - 1), .bool true] else .tuple #[.int .i64 0, .bool false]
set_option maxHeartbeats 1000000 in
theorem power_any (b : Nat) (w : World) (hb : b < 18446744073709551616) : Calls Try.prog 29 #[.float .f64 b] w fun e w' => e = .returned (powV (pt 52 11 1023 b)) ∧ Below w.heap.size w w' := by
  have k46 := fun w => Parts_any b w hb
  obtain ⟨xm, xe1, xe2, xk, xp, xz, xq, xn, xz0, xs0⟩ := pt_range b
  unfold powV
  generalize pt 52 11 1023 b = x at *
  obtain ⟨kd, ng, M, X, qu, LD⟩ := x
  unfold Pt.val at k46
  dsimp only at *
  have k57 := fun w => finite_any kd X ng qu M LD w
  refine pw_a b kd X ng qu M LD w k46 fun a w1 g B1 r1 ha => ?_
  by_cases c : kd = 3 ∨ kd = 4
  · rw [if_neg (by omega)]
    have e : (decide (¬ kd = 3) && decide (¬ kd = 4)) = false := by rcases c with c | c <;> simp [c]
    rw [e] at k57
    exact pw_x kd X ng qu M LD g a w w1 B1 r1 k57 ha
  have e : (decide (¬ kd = 3) && decide (¬ kd = 4)) = true := by
    have h3 : ¬ kd = 3 := by omega
    have h4 : ¬ kd = 4 := by omega
    simp [h3, h4]
  rw [e] at k57
  by_cases c0 : kd = 0
  · rw [if_neg (by omega)]
    exact pw_z kd X ng qu M LD g a w w1 B1 r1 (xz c0) k57 ha
  · rw [if_pos (by omega)]
    have hM := xp (by omega)
    obtain ⟨l1, l2, l3⟩ := len_of (m := M) (by omega) (by omega)
    have k58 := fun w => (len_any M w (by omega)).mono fun e w' h => (show e = _ ∧ Below w.heap.size w w' from ⟨h.1, by rw [h.2]; exact Below.refl _ _⟩)
    exact pw_g kd X ng qu M LD g _ _ _ a w w1 B1 r1 (beq_eq_false_iff_ne.2 (by omega)) (i64_in _ (by omega) (by omega)) (i64_in _ (by omega) (by omega)) k57 k58 ha
set_option maxHeartbeats 1000000 in
theorem rpower_any (b : Nat) (w : World) (hb : b < 18446744073709551616) : Calls Try.prog 30 #[.int .u64 (b : Int)] w fun e w' => e = .returned (powV (pt 52 11 1023 b)) ∧ Below w.heap.size w w' := by
  have k11 := fun w => rparts_any lay64 b w hb
  obtain ⟨xm, xe1, xe2, xk, xp, xz, xq, xn, xz0, xs0⟩ := pt_range b
  unfold powV
  generalize pt 52 11 1023 b = x at *
  obtain ⟨kd, ng, M, X, qu, LD⟩ := x
  unfold Pt.val at k11
  dsimp only at *
  refine rp_a b kd X ng qu M LD w k11 fun a w1 g B1 r1 ha => ?_
  have go : kd = 1 ∨ kd = 2 → ∀ a, At 29 [(4, .pointer (some ⟨g, 0, none⟩)), (5, .int .i64 X)] a → Code.wp Try.prog (sq 4 body30) (bodyPost Try.prog Try.f30 fun e w' => e = .returned (if kd = 1 ∨ kd = 2 then .tuple #[.int .i64 (X + (Lib.bitLen M : Nat) - 1), .bool true] else .tuple #[.int .i64 0, .bool false]) ∧ Below w.heap.size w w') a w1 := fun hk a ha => by
    have hM := xp hk
    rw [if_pos hk]
    obtain ⟨l, l1, l2⟩ := log_of (m := M) (by omega)
    have hl : l < 53 := (Nat.pow_lt_pow_iff_right (by omega : 1 < 2)).1 (Nat.lt_of_le_of_lt l1 xm)
    have hlen := len_at l1 l2 (by omega)
    rw [hlen, show X + ((l + 1 : Nat) : Int) - 1 = X + l by omega]
    exact rp_l kd X ng qu M LD g l a w1 r1 l1 l2 (by omega) (by omega) (by omega) (fun a ha => rp_e _ a w w1 B1 ha) ha
  rcases xk with h | h | h | h | h
  · rw [if_neg (by omega)]
    exact rp_0 kd X ng qu M LD g a w w1 B1 r1 h ha
  · exact rp_1 kd X ng qu M LD g a w1 r1 h (go (.inl h)) ha
  · exact rp_2 kd X ng qu M LD g a w1 r1 h (go (.inr h)) ha
  · rw [if_neg (by omega)]
    exact rp_3 kd X ng qu M LD g a w w1 B1 r1 h ha
  · rw [if_neg (by omega)]
    exact rp_4 kd X ng qu M LD g a w w1 B1 r1 h ha
noncomputable def body27 : Code := Try.f27.body.getD .skip
theorem run_neg {P : Program} {w : World} {l : List (Nat × Value)} {o : Oper} {t : TypeId} {x : Operand} (ho : o.op = .unOp .neg t x) {a n : Int} {k : IntKind} (hx : rho l x = .int k a) (hr : k.wrap (-a) = n) : (execOp (rho l) o).run P w = .ok (.value (.int k n)) w := by
  subst hr
  unfold execOp
  simp [ho, hx, go_sem]
set_option maxRecDepth 100000 in
set_option maxHeartbeats 2000000 in
theorem mo_a {Q : Ending → World → Prop} (b : Nat) (kd X : Int) (ng qu : Bool) (M LD : Nat) (w : World) (k46 : ∀ w, Calls Try.prog 46 #[.float .f64 b] w fun e w' => e = .returned (.agg #[.int .i64 kd, .bool ng, .int .u64 (M : Int), .int .i64 X, .bool qu, .int .u64 (LD : Int)]) ∧ Below w.heap.size w w')
    (hK : Hid (∀ a w' g, w.heap.size ≤ g → Below w.heap.size w w' → w'.heap[g]? = some (.cells #[.int .i64 kd, .bool ng, .int .u64 (M : Int), .int .i64 X, .bool qu, .int .u64 (LD : Int)] 66 (0, 0)) → At 41 [(0, .float .f64 b), (4, .pointer (some ⟨g, 0, none⟩))] a → Code.wp Try.prog (sq 2 body27) (bodyPost Try.prog Try.f27 Q) a w')) : Calls Try.prog 27 #[.float .f64 b] w Q := by
  go_enter Try.func27, Try.ntmps27
  change Code.wp _ (Code.seq (hd (sq 0 body27)) (Code.seq (hd (sq 1 body27)) (sq 2 body27))) _ _ _
  generalize sq 2 body27 = REST at hK ⊢
  conv => arg 2; arg 1; whnf
  conv => arg 2; arg 2; arg 1; whnf
  go_wp2_with (go_at_call 46; refine (k46 _).mono ?_)
  intro e1 w1 hq
  first | (obtain ⟨rfl, b1⟩ : _ ∧ _ := hq) | (subst hq; intro b1)
  have B1 : Hid (Below w.heap.size w (w1.alloc (.cells #[.int .i64 kd, .bool ng, .int .u64 (M : Int), .int .i64 X, .bool qu, .int .u64 (LD : Int)] 66))) := b1.alloc b1.size _
  have z1 := show Hid _ from b1.size
  have r1 : Hid ((w1.alloc (.cells #[.int .i64 kd, .bool ng, .int .u64 (M : Int), .int .i64 X, .bool qu, .int .u64 (LD : Int)] 66)).heap[w1.heap.size]? = some (.cells #[.int .i64 kd, .bool ng, .int .u64 (M : Int), .int .i64 X, .bool qu, .int .u64 (LD : Int)] 66 (0, 0))) := heap_alloc_last _ _
  clear b1
  go_wp2
  exact hK.out _ _ _ z1.out B1.out r1.out ⟨rfl, rfl, rfl, rfl, trivial⟩
set_option maxRecDepth 100000 in
set_option maxHeartbeats 2000000 in
theorem mo_4 (b : Nat) (kd X : Int) (ng qu : Bool) (M LD : Nat) (g : Nat) (a : Act) (w0 w : World) (B : Hid (Below w0.heap.size w0 w)) (r : Hid (w.heap[g]? = some (.cells #[.int .i64 kd, .bool ng, .int .u64 (M : Int), .int .i64 X, .bool qu, .int .u64 (LD : Int)] 66 (0, 0)))) (h : kd = 4) (ha : At 41 [(0, .float .f64 b), (4, .pointer (some ⟨g, 0, none⟩))] a) : Code.wp Try.prog (sq 2 body27) (bodyPost Try.prog Try.f27 fun e w' => e = .returned (.tuple #[.float .f64 b, .float .f64 b]) ∧ Below w0.heap.size w0 w') a w := by
  subst h
  obtain ⟨m0, m1, m2, m3, m4, m5⟩ := cells6 r.out
  obtain ⟨f, rfl, h0, h4, -⟩ := ha.lit
  change Code.wp _ _ _ ⟨#[f 0, f 1, f 2, f 3, f 4, f 5, f 6, f 7, f 8, f 9, f 10, f 11, f 12, f 13, f 14, f 15, f 16, f 17, f 18, f 19, f 20, f 21, f 22, f 23, f 24, f 25, f 26, f 27, f 28, f 29, f 30, f 31, f 32, f 33, f 34, f 35, f 36, f 37, f 38, f 39, f 40], []⟩ _
  simp only at h0 h4
  simp only [h0, h4]
  clear h0 h4
  conv => arg 2; whnf
  go_wp2
  go_ret2
  exact ⟨rfl, B.out⟩
set_option maxRecDepth 100000 in
set_option maxHeartbeats 2000000 in
theorem mo_b {Q : Exit → Act → World → Prop} (b : Nat) (kd X : Int) (ng qu : Bool) (M LD : Nat) (g : Nat) (a : Act) (w : World) (r : Hid (w.heap[g]? = some (.cells #[.int .i64 kd, .bool ng, .int .u64 (M : Int), .int .i64 X, .bool qu, .int .u64 (LD : Int)] 66 (0, 0)))) (h : (kd == 4) = false) (hK : Hid (∀ a w' g2, g2 = w.heap.size → Below w.heap.size w w' → w'.heap[g2]? = some (.cells #[.int .i64 0, .bool ng, .int .u64 ((0 : Nat) : Int), .int .i64 X, .bool qu, .int .u64 (LD : Int)] 66 (0, 0)) → At 41 [(4, .pointer (some ⟨g, 0, none⟩)), (5, .pointer (some ⟨g2, 0, none⟩))] a → Code.wp Try.prog (sq 5 body27) Q a w')) (ha : At 41 [(0, .float .f64 b), (4, .pointer (some ⟨g, 0, none⟩))] a) : Code.wp Try.prog (sq 2 body27) Q a w := by
  obtain ⟨m0, m1, m2, m3, m4, m5⟩ := cells6 r.out
  obtain ⟨f, rfl, h0, h4, -⟩ := ha.lit
  change Code.wp _ _ _ ⟨#[f 0, f 1, f 2, f 3, f 4, f 5, f 6, f 7, f 8, f 9, f 10, f 11, f 12, f 13, f 14, f 15, f 16, f 17, f 18, f 19, f 20, f 21, f 22, f 23, f 24, f 25, f 26, f 27, f 28, f 29, f 30, f 31, f 32, f 33, f 34, f 35, f 36, f 37, f 38, f 39, f 40], []⟩ _
  simp only at h0 h4
  simp only [h0, h4]
  clear h0 h4
  change Code.wp _ (Code.seq (hd (sq 2 body27)) (Code.seq (hd (sq 3 body27)) (Code.seq (hd (sq 4 body27)) (sq 5 body27)))) _ _ _
  generalize sq 5 body27 = REST at hK ⊢
  conv => arg 2; arg 1; whnf
  conv => arg 2; arg 2; arg 1; whnf
  conv => arg 2; arg 2; arg 2; arg 1; whnf
  go_wp2
  refine hK.out _ _ w.heap.size rfl ?_ ?_ ⟨rfl, rfl, rfl, rfl, trivial⟩
  · exact (Below.refl _ _).alloc (Nat.le_refl _) _
  · exact heap_alloc_last _ _
set_option maxRecDepth 100000 in
set_option maxHeartbeats 2000000 in
theorem mo_c {Q : Exit → Act → World → Prop} (kd X : Int) (ng qu : Bool) (M LD : Nat) (g g2 Q0 WH RE Bd : Nat) (a : Act) (w : World) (hg12 : Hid (¬ g2 = g ∧ Bd ≤ g ∧ Bd ≤ g2 ∧ Bd ≤ w.heap.size)) (r : Hid (w.heap[g]? = some (.cells #[.int .i64 kd, .bool ng, .int .u64 (M : Int), .int .i64 X, .bool qu, .int .u64 (LD : Int)] 66 (0, 0)))) (r2 : Hid (w.heap[g2]? = some (.cells #[.int .i64 0, .bool ng, .int .u64 ((0 : Nat) : Int), .int .i64 X, .bool qu, .int .u64 (LD : Int)] 66 (0, 0)))) (h : X < 0) (nX : Int) (hn : IntKind.i64.wrap (-X) = nX) (h1 : Op.shift .shr .u64 (M : Int) .i64 nX = pure (.int .u64 (Q0 : Int))) (h2 : Op.shift .shl .u64 (Q0 : Int) .i64 nX = pure (.int .u64 (WH : Int))) (h3 : IntKind.u64.wrap ((M : Int) - (WH : Int)) = (RE : Int)) (hK : Hid (∀ a w', Below Bd w w' → w'.heap[g]? = some (.cells #[.int .i64 kd, .bool ng, .int .u64 (WH : Int), .int .i64 X, .bool qu, .int .u64 (LD : Int)] 66 (0, 0)) → w'.heap[g2]? = some (.cells #[.int .i64 0, .bool ng, .int .u64 (RE : Int), .int .i64 X, .bool qu, .int .u64 (LD : Int)] 66 (0, 0)) → At 41 [(4, .pointer (some ⟨g, 0, none⟩)), (5, .pointer (some ⟨g2, 0, none⟩))] a → Code.wp Try.prog (sq 6 body27) Q a w')) (ha : At 41 [(4, .pointer (some ⟨g, 0, none⟩)), (5, .pointer (some ⟨g2, 0, none⟩))] a) : Code.wp Try.prog (sq 5 body27) Q a w := by
  obtain ⟨m0, m1, m2, m3, m4, m5⟩ := cells6 r.out
  have hr := r
  have hr2 := r2
  obtain ⟨f, rfl, h4, h5, -⟩ := ha.lit
  change Code.wp _ _ _ ⟨#[f 0, f 1, f 2, f 3, f 4, f 5, f 6, f 7, f 8, f 9, f 10, f 11, f 12, f 13, f 14, f 15, f 16, f 17, f 18, f 19, f 20, f 21, f 22, f 23, f 24, f 25, f 26, f 27, f 28, f 29, f 30, f 31, f 32, f 33, f 34, f 35, f 36, f 37, f 38, f 39, f 40], []⟩ _
  simp only at h4 h5
  simp only [h4, h5]
  clear h4 h5
  change Code.wp _ (Code.seq (hd (sq 5 body27)) (sq 6 body27)) _ _ _
  generalize sq 6 body27 = REST at hK ⊢
  conv => arg 2; arg 1; whnf
  go_wp2
  refine wp_region_vals (a1 := ?a1r7n1) (grown _) [.pointer (some ⟨g, 2, none⟩), .int .u64 (M : Int), .pointer (some ⟨g, 3, none⟩), .int .i64 X, .int .i64 nX, .int .u64 (Q0 : Int), .pointer (some ⟨g, 3, none⟩), .int .i64 X, .int .i64 nX, .int .u64 (WH : Int), .int .u64 (WH : Int)] 41 rfl (by kernel_rfl) (by kernel_rfl) (grown_start _) ⟨?o0r7n1, ?o1r7n1, ?o2r7n1, ?o3r7n1, ?o4r7n1, ?o5r7n1, ?o6r7n1, ?o7r7n1, ?o8r7n1, ?o9r7n1, ?o10r7n1, trivial⟩ ?har7n1 ?hdoner7n1
  case har7n1 => simp [putAll, Act.put]; exact rfl
  case o0r7n1 => exact ValOp.pure (grown_steady _ 0) [(4, .pointer (some ⟨g, 0, none⟩))] rfl (fun _ _ h2 => ⟨(h2 4 (by kernel_rfl)).trans rfl, trivial⟩) (by kernel_rfl) (fun _ _ _ _ _ => by kernel_rfl)
  case o1r7n1 => exact ValOp.pure (grown_steady _ 1) [(20, .pointer (some ⟨g, 2, none⟩))] rfl (fun _ h1 _ => ⟨h1 0 20 (by kernel_rfl), trivial⟩) (by kernel_rfl) (fun _ _ _ hg _ => run_read rfl rfl (run_cell (below_at hr.out hg) rfl (Try.isAgg22 _)))
  case o2r7n1 => exact ValOp.pure (grown_steady _ 2) [(4, .pointer (some ⟨g, 0, none⟩))] rfl (fun _ _ h2 => ⟨(h2 4 (by kernel_rfl)).trans rfl, trivial⟩) (by kernel_rfl) (fun _ _ _ _ _ => by kernel_rfl)
  case o3r7n1 => exact ValOp.pure (grown_steady _ 3) [(22, .pointer (some ⟨g, 3, none⟩))] rfl (fun _ h1 _ => ⟨h1 2 22 (by kernel_rfl), trivial⟩) (by kernel_rfl) (fun _ _ _ hg _ => run_read rfl rfl (run_cell (below_at hr.out hg) rfl (Try.isAgg3 _)))
  case o4r7n1 => exact ValOp.pure (grown_steady _ 4) [(23, .int .i64 X)] rfl (fun _ h1 _ => ⟨h1 3 23 (by kernel_rfl), trivial⟩) (by kernel_rfl) (fun _ _ _ _ _ => run_neg rfl rfl hn)
  case o5r7n1 => exact ValOp.pure (grown_steady _ 5) [(21, .int .u64 (M : Int)), (24, .int .i64 nX)] rfl (fun _ h1 _ => ⟨h1 1 21 (by kernel_rfl), h1 4 24 (by kernel_rfl), trivial⟩) (by kernel_rfl) (fun _ _ _ _ _ => run_bin (a := .int .u64 (M : Int)) (b := .int .i64 nX) rfl rfl rfl (by kernel_rfl) (by simp only [binOp, h1]; rfl))
  case o6r7n1 => exact ValOp.pure (grown_steady _ 6) [(4, .pointer (some ⟨g, 0, none⟩))] rfl (fun _ _ h2 => ⟨(h2 4 (by kernel_rfl)).trans rfl, trivial⟩) (by kernel_rfl) (fun _ _ _ _ _ => by kernel_rfl)
  case o7r7n1 => exact ValOp.pure (grown_steady _ 7) [(26, .pointer (some ⟨g, 3, none⟩))] rfl (fun _ h1 _ => ⟨h1 6 26 (by kernel_rfl), trivial⟩) (by kernel_rfl) (fun _ _ _ hg _ => run_read rfl rfl (run_cell (below_at hr.out hg) rfl (Try.isAgg3 _)))
  case o8r7n1 => exact ValOp.pure (grown_steady _ 8) [(27, .int .i64 X)] rfl (fun _ h1 _ => ⟨h1 7 27 (by kernel_rfl), trivial⟩) (by kernel_rfl) (fun _ _ _ _ _ => run_neg rfl rfl hn)
  case o9r7n1 => exact ValOp.pure (grown_steady _ 9) [(25, .int .u64 (Q0 : Int)), (28, .int .i64 nX)] rfl (fun _ h1 _ => ⟨h1 5 25 (by kernel_rfl), h1 8 28 (by kernel_rfl), trivial⟩) (by kernel_rfl) (fun _ _ _ _ _ => run_bin (a := .int .u64 (Q0 : Int)) (b := .int .i64 nX) rfl rfl rfl (by kernel_rfl) (by simp only [binOp, h2]; rfl))
  case o10r7n1 => exact ValOp.pure (grown_steady _ 10) [(29, .int .u64 (WH : Int))] rfl (fun _ h1 _ => ⟨h1 9 29 (by kernel_rfl), trivial⟩) (by kernel_rfl) (fun _ _ _ _ _ => by kernel_rfl)
  intro w1 s1 _ bb
  have hr1 : Hid (w1.heap[g]? = some (.cells #[.int .i64 kd, .bool ng, .int .u64 (M : Int), .int .i64 X, .bool qu, .int .u64 (LD : Int)] 66 (0, 0))) := below_at r.out (show Below _ _ w1 from bb)
  have hr3 : Hid (w1.heap[g2]? = some (.cells #[.int .i64 0, .bool ng, .int .u64 ((0 : Nat) : Int), .int .i64 X, .bool qu, .int .u64 (LD : Int)] 66 (0, 0))) := below_at r2.out (show Below _ _ w1 from bb)
  have B1 : Hid (Below _ w w1) := show Below _ _ w1 from bb
  have fz : ∀ i, w1.frozen? ⟨g, i, none⟩ = false := fun i => froz hr1.out
  have fz2 : ∀ i, w1.frozen? ⟨g2, i, none⟩ = false := fun i => froz hr3.out
  clear bb m0 m1 m2 m3 m4 m5 r r2 hr hr2 h1 h2
  obtain ⟨m0, m1, m2, m3, m4, m5⟩ := cells6 hr1.out
  obtain ⟨n0, n1, n2, n3, n4, n5⟩ := cells6 hr3.out
  have hne := hg12.out.1
  go_wp2
  obtain ⟨_, hB1, hB2, hB3⟩ := hg12.out
  refine hK.out _ _ ?_ ?_ ?_ ⟨rfl, rfl, rfl, rfl, trivial⟩
  · exact (((B1.out.mono hB3).setCell (p := ⟨g2, 2, none⟩) hB2 _).setCell (p := ⟨g, 2, none⟩) hB1 _)
  · exact set_at _ (set_other _ hne hr1.out)
  · exact set_other _ (fun h => hne h.symm) (set_at _ hr3.out)
set_option maxRecDepth 100000 in
set_option maxHeartbeats 2000000 in
theorem mo_n {Q : Exit → Act → World → Prop} (kd X : Int) (ng qu : Bool) (M LD : Nat) (g g2 : Nat) (a : Act) (w : World) (r : Hid (w.heap[g]? = some (.cells #[.int .i64 kd, .bool ng, .int .u64 (M : Int), .int .i64 X, .bool qu, .int .u64 (LD : Int)] 66 (0, 0)))) (h : ¬ X < 0) (hK : Hid (∀ a, At 41 [(4, .pointer (some ⟨g, 0, none⟩)), (5, .pointer (some ⟨g2, 0, none⟩))] a → Code.wp Try.prog (sq 6 body27) Q a w)) (ha : At 41 [(4, .pointer (some ⟨g, 0, none⟩)), (5, .pointer (some ⟨g2, 0, none⟩))] a) : Code.wp Try.prog (sq 5 body27) Q a w := by
  obtain ⟨m0, m1, m2, m3, m4, m5⟩ := cells6 r.out
  obtain ⟨f, rfl, h4, h5, -⟩ := ha.lit
  change Code.wp _ _ _ ⟨#[f 0, f 1, f 2, f 3, f 4, f 5, f 6, f 7, f 8, f 9, f 10, f 11, f 12, f 13, f 14, f 15, f 16, f 17, f 18, f 19, f 20, f 21, f 22, f 23, f 24, f 25, f 26, f 27, f 28, f 29, f 30, f 31, f 32, f 33, f 34, f 35, f 36, f 37, f 38, f 39, f 40], []⟩ _
  simp only at h4 h5
  simp only [h4, h5]
  clear h4 h5
  change Code.wp _ (Code.seq (hd (sq 5 body27)) (sq 6 body27)) _ _ _
  generalize sq 6 body27 = REST at hK ⊢
  conv => arg 2; arg 1; whnf
  go_wp2
  exact hK.out _ ⟨rfl, rfl, rfl, rfl, trivial⟩
set_option maxRecDepth 100000 in
set_option maxHeartbeats 2000000 in
theorem mo_e (kd X : Int) (ng qu : Bool) (LD : Nat) (g g2 WH RE V1 V2 : Nat) (a : Act) (w0 w : World) (B : Hid (Below w0.heap.size w0 w)) (r : Hid (w.heap[g]? = some (.cells #[.int .i64 kd, .bool ng, .int .u64 (WH : Int), .int .i64 X, .bool qu, .int .u64 (LD : Int)] 66 (0, 0)))) (r2 : Hid (w.heap[g2]? = some (.cells #[.int .i64 0, .bool ng, .int .u64 (RE : Int), .int .i64 X, .bool qu, .int .u64 (LD : Int)] 66 (0, 0)))) (k50 : ∀ w, Calls Try.prog 50 #[.agg #[.int .i64 kd, .bool ng, .int .u64 (WH : Int), .int .i64 X, .bool qu, .int .u64 (LD : Int)]] w fun e w' => e = .returned (.float .f64 V1) ∧ Below w.heap.size w w') (k51 : ∀ w, Calls Try.prog 50 #[.agg #[.int .i64 0, .bool ng, .int .u64 (RE : Int), .int .i64 X, .bool qu, .int .u64 (LD : Int)]] w fun e w' => e = .returned (.float .f64 V2) ∧ Below w.heap.size w w') (ha : At 41 [(4, .pointer (some ⟨g, 0, none⟩)), (5, .pointer (some ⟨g2, 0, none⟩))] a) : Code.wp Try.prog (sq 6 body27) (bodyPost Try.prog Try.f27 fun e w' => e = .returned (.tuple #[.float .f64 V1, .float .f64 V2]) ∧ Below w0.heap.size w0 w') a w := by
  obtain ⟨f, rfl, h4, h5, -⟩ := ha.lit
  change Code.wp _ _ _ ⟨#[f 0, f 1, f 2, f 3, f 4, f 5, f 6, f 7, f 8, f 9, f 10, f 11, f 12, f 13, f 14, f 15, f 16, f 17, f 18, f 19, f 20, f 21, f 22, f 23, f 24, f 25, f 26, f 27, f 28, f 29, f 30, f 31, f 32, f 33, f 34, f 35, f 36, f 37, f 38, f 39, f 40], []⟩ _
  simp only at h4 h5
  simp only [h4, h5]
  clear h4 h5
  conv => arg 2; whnf
  go_wp2
  refine wp_region_vals (a1 := ?a1r10n2) (grown _) [.agg #[.int .i64 kd, .bool ng, .int .u64 (WH : Int), .int .i64 X, .bool qu, .int .u64 (LD : Int)], .float .f64 V1, .agg #[.int .i64 0, .bool ng, .int .u64 (RE : Int), .int .i64 X, .bool qu, .int .u64 (LD : Int)], .float .f64 V2, .float .f64 V1, .float .f64 V2] 41 rfl (by kernel_rfl) (by kernel_rfl) (grown_start _) ⟨?o0r10n2, ?o1r10n2, ?o2r10n2, ?o3r10n2, ?o4r10n2, ?o5r10n2, trivial⟩ ?har10n2 ?hdoner10n2
  case har10n2 => simp [putAll, Act.put]; exact rfl
  case o0r10n2 => exact ValOp.pure (grown_steady _ 0) [(4, .pointer (some ⟨g, 0, none⟩))] rfl (fun _ _ h2 => ⟨(h2 4 (by kernel_rfl)).trans rfl, trivial⟩) (by kernel_rfl) (fun _ _ _ hg _ => run_read rfl rfl (run_loadVar_row _ _ _ _ _ _ _ (below_at r.out hg) Try.underlying66 rfl (by kernel_rfl)))
  case o1r10n2 => exact ValOp.call (grown_steady _ 1) [(37, .agg #[.int .i64 kd, .bool ng, .int .u64 (WH : Int), .int .i64 X, .bool qu, .int .u64 (LD : Int)])] rfl (fun _ h1 _ => ⟨h1 0 37 (by kernel_rfl), trivial⟩) (by kernel_rfl) 50 #[.agg #[.int .i64 kd, .bool ng, .int .u64 (WH : Int), .int .i64 X, .bool qu, .int .u64 (LD : Int)]] (fun _ => by kernel_rfl) (fun _ w _ => k50 w)
  case o2r10n2 => exact ValOp.pure (grown_steady _ 2) [(5, .pointer (some ⟨g2, 0, none⟩))] rfl (fun _ _ h2 => ⟨(h2 5 (by kernel_rfl)).trans rfl, trivial⟩) (by kernel_rfl) (fun _ _ _ hg _ => run_read rfl rfl (run_loadVar_row _ _ _ _ _ _ _ (below_at r2.out hg) Try.underlying66 rfl (by kernel_rfl)))
  case o3r10n2 => exact ValOp.call (grown_steady _ 3) [(39, .agg #[.int .i64 0, .bool ng, .int .u64 (RE : Int), .int .i64 X, .bool qu, .int .u64 (LD : Int)])] rfl (fun _ h1 _ => ⟨h1 2 39 (by kernel_rfl), trivial⟩) (by kernel_rfl) 50 #[.agg #[.int .i64 0, .bool ng, .int .u64 (RE : Int), .int .i64 X, .bool qu, .int .u64 (LD : Int)]] (fun _ => by kernel_rfl) (fun _ w _ => k51 w)
  case o4r10n2 => exact ValOp.pure (grown_steady _ 4) [(38, .float .f64 V1)] rfl (fun _ h1 _ => ⟨h1 1 38 (by kernel_rfl), trivial⟩) (by kernel_rfl) (fun _ _ _ _ _ => by kernel_rfl)
  case o5r10n2 => exact ValOp.pure (grown_steady _ 5) [(40, .float .f64 V2)] rfl (fun _ h1 _ => ⟨h1 3 40 (by kernel_rfl), trivial⟩) (by kernel_rfl) (fun _ _ _ _ _ => by kernel_rfl)
  intro w1 s1 _ bb
  have B1 : Hid (Below w0.heap.size w0 w1) := B.out.trans ((show Below _ _ w1 from bb).mono B.out.size)
  clear bb
  go_wp2
  go_ret2
  exact ⟨rfl, B1.out⟩
theorem shr_is (M j : Nat) (hM : M < 18446744073709551616) : Op.shift .shr .u64 (M : Int) .i64 (j : Int) = pure (.int .u64 ((M / 2 ^ j : Nat) : Int)) := by
  rw [shift_shr_any _ _ _ _ (Int.natCast_nonneg _), Int.toNat_natCast]
  have e : (M : Int) / 2 ^ min j IntKind.u64.bits = ((M / 2 ^ j : Nat) : Int) := by
    rw [show IntKind.u64.bits = 64 from rfl]
    by_cases c : j ≤ 64
    · rw [Nat.min_eq_left c, Int.natCast_ediv, Int.natCast_pow]; rfl
    · have h0 : M / 2 ^ j = 0 := Nat.div_eq_of_lt (Nat.lt_of_lt_of_le hM (Nat.pow_le_pow_right (n := 2) (i := 64) (j := j) (by omega) (by omega)))
      rw [Nat.min_eq_right (by omega), h0]
      have : (2 : Int) ^ 64 = 18446744073709551616 := by decide
      rw [this]
      omega
  rw [e]
theorem shl_is (q j : Nat) (h : q * 2 ^ j < 18446744073709551616) : Op.shift .shl .u64 (q : Int) .i64 (j : Int) = pure (.int .u64 ((q * 2 ^ j : Nat) : Int)) := by
  rw [shift_shl_any _ _ _ _ (Int.natCast_nonneg _), Int.toNat_natCast, show IntKind.u64.bits = 64 from rfl]
  have e : IntKind.u64.wrap ((q : Int) * 2 ^ min j 64) = ((q * 2 ^ j : Nat) : Int) := by
    by_cases c : j ≤ 64
    · rw [Nat.min_eq_left c]
      have : (q : Int) * 2 ^ j = ((q * 2 ^ j : Nat) : Int) := by rw [Int.natCast_mul, Int.natCast_pow]; rfl
      rw [this]
      exact u64_small _ (by omega)
    · have h0 : q = 0 := by
        refine Classical.byContradiction fun hq => ?_
        have h1 : 2 ^ 64 ≤ 2 ^ j := Nat.pow_le_pow_right (by omega) (by omega)
        have h2 : 1 * 2 ^ j ≤ q * 2 ^ j := Nat.mul_le_mul_right _ (by omega)
        omega
      subst h0
      rw [Nat.zero_mul, show ((0 : Nat) : Int) * 2 ^ min j 64 = ((0 : Nat) : Int) from Int.zero_mul _]
      exact u64_small 0 (by omega)
  rw [e]
/-- What stands ahead of the point, and behind it. -/
def modW (x : Pt) (b : Nat) : Nat := if 0 ≤ x.exp then b else (if x.neg = true then 9223372036854775808 else 0) + nearB 52 11 1023 (x.mant / 2 ^ (-x.exp).toNat) 0
def modR (x : Pt) (b : Nat) : Nat := if x.kind = 4 then b else (if x.neg = true then 9223372036854775808 else 0) + (if 0 ≤ x.exp then 0 else nearB 52 11 1023 (x.mant % 2 ^ (-x.exp).toNat) x.exp)
theorem exp_34 (b : Nat) : ((pt 52 11 1023 b).kind = 3 ∨ (pt 52 11 1023 b).kind = 4) → (pt 52 11 1023 b).exp = 0 := by
  unfold pt
  repeat' split
  all_goals (dsimp only; intro h; omega)
set_option maxHeartbeats 1000000 in
theorem modf_any (b : Nat) (w : World) (hb : b < 18446744073709551616) : Calls Try.prog 27 #[.float .f64 b] w fun e w' => e = .returned (.tuple #[.float .f64 (modW (pt 52 11 1023 b) b), .float .f64 (modR (pt 52 11 1023 b) b)]) ∧ Below w.heap.size w w' := by
  have k46 := fun w => Parts_any b w hb
  have h34 := exp_34 b
  have hbk : ¬ (pt 52 11 1023 b).kind = 4 → rndB 52 11 1023 (pt 52 11 1023 b) = b := fun h4 => by
    by_cases h3 : (pt 52 11 1023 b).kind = 3
    · have := inf_back b hb h3
      unfold rndB
      rw [if_neg h4, if_pos h3]
      exact this
    · exact bits_back b hb h3 h4
  obtain ⟨xm, xe1, xe2, xk, xp, xz, xq, xn, xz0, xs0⟩ := pt_range b
  unfold modW modR
  generalize pt 52 11 1023 b = x at *
  obtain ⟨kd, ng, M, X, qu, LD⟩ := x
  unfold Pt.val at k46
  dsimp only at *
  refine mo_a b kd X ng qu M LD w k46 fun a w1 g hg B1 r1 ha => ?_
  by_cases c : kd = 4
  · rw [if_pos c, if_pos (by omega)]
    exact mo_4 b kd X ng qu M LD g a w w1 B1 r1 c ha
  have hbk := hbk c
  rw [if_neg c]
  refine mo_b b kd X ng qu M LD g a w1 r1 (beq_eq_false_iff_ne.2 c) (fun a w2 g2 hg2 B2 r3 ha => ?_) ha
  have r2 := below_at r1 B2
  have hgs : g < w1.heap.size := (Array.getElem?_eq_some_iff.1 r1).1
  have z1 := B1.size
  have z2 := B2.size
  have B12 := B1.trans (B2.mono z1)
  by_cases hX : X < 0
  · rw [if_neg (show ¬ 0 ≤ X by omega), if_neg (show ¬ 0 ≤ X by omega)]
    obtain ⟨j, hj⟩ : ∃ j : Nat, -X = j := ⟨_, (Int.toNat_of_nonneg (by omega)).symm⟩
    rw [hj, Int.toNat_natCast]
    have hdm := Nat.div_add_mod M (2 ^ j)
    have hml : M / 2 ^ j * 2 ^ j ≤ M := Nat.div_mul_le_self _ _
    have hmc : M / 2 ^ j * 2 ^ j + M % 2 ^ j = M := by rw [Nat.mul_comm]; exact hdm
    have h1 := shr_is M j (by omega)
    have h2 := shl_is (M / 2 ^ j) j (by omega)
    have hn : IntKind.i64.wrap (-X) = (j : Int) := by rw [hj]; exact i64_in _ (by omega) (by omega)
    have h3 : IntKind.u64.wrap ((M : Int) - ((M / 2 ^ j * 2 ^ j : Nat) : Int)) = ((M % 2 ^ j : Nat) : Int) := by
      rw [show (M : Int) - ((M / 2 ^ j * 2 ^ j : Nat) : Int) = ((M % 2 ^ j : Nat) : Int) by omega]
      exact u64_small _ (by omega)
    have hk12 : ¬ kd = 3 := by omega
    refine mo_c kd X ng qu M LD g g2 _ _ _ w.heap.size a w2 ⟨by omega, hg, by omega, by omega⟩ r2 r3 hX _ hn h1 h2 h3 (fun a w3 B3 r4 r5 ha => ?_) ha
    have k50 := fun w => number_any ⟨kd, ng, M / 2 ^ j * 2 ^ j, X, qu, LD⟩ w (by show _ * _ < _; omega) (by show _ ≤ X; omega) (by show X ≤ _; omega)
    have k51 := fun w => number_any ⟨0, ng, M % 2 ^ j, X, qu, LD⟩ w (by show _ % _ < _; omega) (by show _ ≤ X; omega) (by show X ≤ _; omega)
    unfold rndB Pt.val at k50 k51
    dsimp only at k50 k51
    rw [if_neg c, if_neg hk12] at k50
    rw [if_neg (show ¬ (0 : Int) = 4 by decide), if_neg (show ¬ (0 : Int) = 3 by decide)] at k51
    have hv : nearB 52 11 1023 (M / 2 ^ j * 2 ^ j) X = nearB 52 11 1023 (M / 2 ^ j) 0 := by
      by_cases z : M / 2 ^ j = 0
      · rw [z, Nat.zero_mul, nearB_nought, nearB_nought]
      · have := nearB_scale 52 11 1023 (M / 2 ^ j) j 0 z (by omega)
        rw [show (0 : Int) - j = X by omega] at this
        exact this
    rw [hv] at k50
    exact mo_e kd X ng qu LD g g2 _ _ _ _ a w w3 (B12.trans B3) r4 r5 k50 k51 ha
  · rw [if_pos (show 0 ≤ X by omega), if_pos (show 0 ≤ X by omega)]
    refine mo_n kd X ng qu M LD g g2 a w2 r2 hX (fun a ha => ?_) ha
    have k50 := fun w => number_any ⟨kd, ng, M, X, qu, LD⟩ w (by show M < _; omega) (by show _ ≤ X; omega) (by show X ≤ _; omega)
    have k51 := fun w => number_any ⟨0, ng, 0, X, qu, LD⟩ w (by show 0 < _; omega) (by show _ ≤ X; omega) (by show X ≤ _; omega)
    rw [hbk] at k50
    unfold Pt.val at k50 k51
    unfold rndB at k51
    dsimp only at k50 k51
    rw [if_neg (show ¬ (0 : Int) = 4 by decide), if_neg (show ¬ (0 : Int) = 3 by decide), nearB_nought] at k51
    exact mo_e kd X ng qu LD g g2 M 0 _ _ a w w2 B12 r2 r3 k50 k51 ha
noncomputable def body28 : Code := Try.f28.body.getD .skip
set_option maxRecDepth 100000 in
set_option maxHeartbeats 2000000 in
theorem tr_a {Q : Ending → World → Prop} (b TP : Nat) (kd X : Int) (ng qu : Bool) (M LD : Nat) (w : World) (hT : bits .and .u64 (b : Int) 9223372036854775808 = (TP : Int)) (k11 : ∀ w, Calls Try.prog 11 #[.int .u64 (b : Int), .agg #[.int .i64 52, .int .i64 2047, .int .i64 1023]] w fun e w' => e = .returned (.agg #[.int .i64 kd, .bool ng, .int .u64 (M : Int), .int .i64 X, .bool qu, .int .u64 (LD : Int)]) ∧ Below w.heap.size w w')
    (hK : Hid (∀ a w' g, Below w.heap.size w w' → w'.heap[g]? = some (.cells #[.int .i64 kd, .bool ng, .int .u64 (M : Int), .int .i64 X, .bool qu, .int .u64 (LD : Int)] 27 (0, 0)) → At 74 [(0, .int .u64 (b : Int)), (4, .pointer (some ⟨g, 0, none⟩)), (5, .int .u64 (TP : Int))] a → Code.wp Try.prog (sq 3 body28) (bodyPost Try.prog Try.f28 Q) a w')) : Calls Try.prog 28 #[.int .u64 (b : Int)] w Q := by
  have k12 := k16l
  unfold k16L at k12
  go_enter Try.func28, Try.ntmps28
  change Code.wp _ (Code.seq (hd (sq 0 body28)) (Code.seq (hd (sq 1 body28)) (Code.seq (hd (sq 2 body28)) (sq 3 body28)))) _ _ _
  generalize sq 3 body28 = REST at hK ⊢
  conv => arg 2; arg 1; whnf
  conv => arg 2; arg 2; arg 1; whnf
  conv => arg 2; arg 2; arg 2; arg 1; whnf
  go_wp2_with (go_at_call 12; refine (k12 _).mono ?_)
  intro e1 w1 hq
  first | (obtain ⟨rfl, b1⟩ : _ ∧ _ := hq) | (subst hq; intro b1)
  go_wp2_with (go_at_call 11; refine (k11 _).mono ?_)
  intro e2 w2 hq
  first | (obtain ⟨rfl, b2⟩ : _ ∧ _ := hq) | (subst hq; intro b2)
  have B0 : Below w.heap.size w w2 := b1.trans (b2.mono b1.size)
  have B1 : Hid (Below w.heap.size w (w2.alloc (.cells #[.int .i64 kd, .bool ng, .int .u64 (M : Int), .int .i64 X, .bool qu, .int .u64 (LD : Int)] 27))) := B0.alloc B0.size _
  have r1 : Hid ((w2.alloc (.cells #[.int .i64 kd, .bool ng, .int .u64 (M : Int), .int .i64 X, .bool qu, .int .u64 (LD : Int)] 27)).heap[w2.heap.size]? = some (.cells #[.int .i64 kd, .bool ng, .int .u64 (M : Int), .int .i64 X, .bool qu, .int .u64 (LD : Int)] 27 (0, 0))) := heap_alloc_last _ _
  clear b1 b2 B0
  go_wp2
  exact hK.out _ _ _ B1.out r1.out ⟨rfl, rfl, rfl, rfl, rfl, trivial⟩
set_option maxRecDepth 100000 in
set_option maxHeartbeats 2000000 in
theorem tr_4 (b TP : Nat) (kd X : Int) (ng qu : Bool) (M LD : Nat) (g : Nat) (a : Act) (w0 w : World) (B : Hid (Below w0.heap.size w0 w)) (r : Hid (w.heap[g]? = some (.cells #[.int .i64 kd, .bool ng, .int .u64 (M : Int), .int .i64 X, .bool qu, .int .u64 (LD : Int)] 27 (0, 0)))) (h : kd = 4) (ha : At 74 [(0, .int .u64 (b : Int)), (4, .pointer (some ⟨g, 0, none⟩)), (5, .int .u64 (TP : Int))] a) : Code.wp Try.prog (sq 3 body28) (bodyPost Try.prog Try.f28 fun e w' => e = .returned (.tuple #[.int .u64 (b : Int), .int .u64 (b : Int)]) ∧ Below w0.heap.size w0 w') a w := by
  subst h
  obtain ⟨m0, m1, m2, m3, m4, m5⟩ := cells6 r.out
  obtain ⟨f, rfl, h0, h4, h5, -⟩ := ha.lit
  change Code.wp _ _ _ ⟨#[f 0, f 1, f 2, f 3, f 4, f 5, f 6, f 7, f 8, f 9, f 10, f 11, f 12, f 13, f 14, f 15, f 16, f 17, f 18, f 19, f 20, f 21, f 22, f 23, f 24, f 25, f 26, f 27, f 28, f 29, f 30, f 31, f 32, f 33, f 34, f 35, f 36, f 37, f 38, f 39, f 40, f 41, f 42, f 43, f 44, f 45, f 46, f 47, f 48, f 49, f 50, f 51, f 52, f 53, f 54, f 55, f 56, f 57, f 58, f 59, f 60, f 61, f 62, f 63, f 64, f 65, f 66, f 67, f 68, f 69, f 70, f 71, f 72, f 73], []⟩ _
  simp only at h0 h4 h5
  simp only [h0, h4, h5]
  clear h0 h4 h5
  conv => arg 2; whnf
  go_wp2
  go_ret2
  exact ⟨rfl, B.out⟩
set_option maxRecDepth 100000 in
set_option maxHeartbeats 2000000 in
theorem tr_3 (b TP : Nat) (kd X : Int) (ng qu : Bool) (M LD : Nat) (g : Nat) (a : Act) (w0 w : World) (B : Hid (Below w0.heap.size w0 w)) (r : Hid (w.heap[g]? = some (.cells #[.int .i64 kd, .bool ng, .int .u64 (M : Int), .int .i64 X, .bool qu, .int .u64 (LD : Int)] 27 (0, 0)))) (h : kd = 3) (ha : At 74 [(0, .int .u64 (b : Int)), (4, .pointer (some ⟨g, 0, none⟩)), (5, .int .u64 (TP : Int))] a) : Code.wp Try.prog (sq 3 body28) (bodyPost Try.prog Try.f28 fun e w' => e = .returned (.tuple #[.int .u64 (b : Int), .int .u64 (TP : Int)]) ∧ Below w0.heap.size w0 w') a w := by
  subst h
  obtain ⟨m0, m1, m2, m3, m4, m5⟩ := cells6 r.out
  obtain ⟨f, rfl, h0, h4, h5, -⟩ := ha.lit
  change Code.wp _ _ _ ⟨#[f 0, f 1, f 2, f 3, f 4, f 5, f 6, f 7, f 8, f 9, f 10, f 11, f 12, f 13, f 14, f 15, f 16, f 17, f 18, f 19, f 20, f 21, f 22, f 23, f 24, f 25, f 26, f 27, f 28, f 29, f 30, f 31, f 32, f 33, f 34, f 35, f 36, f 37, f 38, f 39, f 40, f 41, f 42, f 43, f 44, f 45, f 46, f 47, f 48, f 49, f 50, f 51, f 52, f 53, f 54, f 55, f 56, f 57, f 58, f 59, f 60, f 61, f 62, f 63, f 64, f 65, f 66, f 67, f 68, f 69, f 70, f 71, f 72, f 73], []⟩ _
  simp only at h0 h4 h5
  simp only [h0, h4, h5]
  clear h0 h4 h5
  conv => arg 2; whnf
  go_wp2
  go_ret2
  exact ⟨rfl, B.out⟩
set_option maxRecDepth 100000 in
set_option maxHeartbeats 2000000 in
theorem tr_0 (b TP : Nat) (kd X : Int) (ng qu : Bool) (M LD : Nat) (g : Nat) (a : Act) (w0 w : World) (B : Hid (Below w0.heap.size w0 w)) (r : Hid (w.heap[g]? = some (.cells #[.int .i64 kd, .bool ng, .int .u64 (M : Int), .int .i64 X, .bool qu, .int .u64 (LD : Int)] 27 (0, 0)))) (h : kd = 0) (ha : At 74 [(0, .int .u64 (b : Int)), (4, .pointer (some ⟨g, 0, none⟩)), (5, .int .u64 (TP : Int))] a) : Code.wp Try.prog (sq 3 body28) (bodyPost Try.prog Try.f28 fun e w' => e = .returned (.tuple #[.int .u64 (b : Int), .int .u64 (TP : Int)]) ∧ Below w0.heap.size w0 w') a w := by
  subst h
  obtain ⟨m0, m1, m2, m3, m4, m5⟩ := cells6 r.out
  obtain ⟨f, rfl, h0, h4, h5, -⟩ := ha.lit
  change Code.wp _ _ _ ⟨#[f 0, f 1, f 2, f 3, f 4, f 5, f 6, f 7, f 8, f 9, f 10, f 11, f 12, f 13, f 14, f 15, f 16, f 17, f 18, f 19, f 20, f 21, f 22, f 23, f 24, f 25, f 26, f 27, f 28, f 29, f 30, f 31, f 32, f 33, f 34, f 35, f 36, f 37, f 38, f 39, f 40, f 41, f 42, f 43, f 44, f 45, f 46, f 47, f 48, f 49, f 50, f 51, f 52, f 53, f 54, f 55, f 56, f 57, f 58, f 59, f 60, f 61, f 62, f 63, f 64, f 65, f 66, f 67, f 68, f 69, f 70, f 71, f 72, f 73], []⟩ _
  simp only at h0 h4 h5
  simp only [h0, h4, h5]
  clear h0 h4 h5
  conv => arg 2; whnf
  go_wp2
  go_ret2
  exact ⟨rfl, B.out⟩
set_option maxRecDepth 100000 in
set_option maxHeartbeats 2000000 in
theorem tr_p (b TP : Nat) (kd X : Int) (ng qu : Bool) (M LD : Nat) (g : Nat) (a : Act) (w0 w : World) (B : Hid (Below w0.heap.size w0 w)) (r : Hid (w.heap[g]? = some (.cells #[.int .i64 kd, .bool ng, .int .u64 (M : Int), .int .i64 X, .bool qu, .int .u64 (LD : Int)] 27 (0, 0)))) (h4 : (kd == 4) = false) (h3 : (kd == 3) = false) (h0 : (kd == 0) = false) (h : 0 ≤ X) (ha : At 74 [(0, .int .u64 (b : Int)), (4, .pointer (some ⟨g, 0, none⟩)), (5, .int .u64 (TP : Int))] a) : Code.wp Try.prog (sq 3 body28) (bodyPost Try.prog Try.f28 fun e w' => e = .returned (.tuple #[.int .u64 (b : Int), .int .u64 (TP : Int)]) ∧ Below w0.heap.size w0 w') a w := by
  obtain ⟨m0, m1, m2, m3, m4, m5⟩ := cells6 r.out
  obtain ⟨f, rfl, h0, h4, h5, -⟩ := ha.lit
  change Code.wp _ _ _ ⟨#[f 0, f 1, f 2, f 3, f 4, f 5, f 6, f 7, f 8, f 9, f 10, f 11, f 12, f 13, f 14, f 15, f 16, f 17, f 18, f 19, f 20, f 21, f 22, f 23, f 24, f 25, f 26, f 27, f 28, f 29, f 30, f 31, f 32, f 33, f 34, f 35, f 36, f 37, f 38, f 39, f 40, f 41, f 42, f 43, f 44, f 45, f 46, f 47, f 48, f 49, f 50, f 51, f 52, f 53, f 54, f 55, f 56, f 57, f 58, f 59, f 60, f 61, f 62, f 63, f 64, f 65, f 66, f 67, f 68, f 69, f 70, f 71, f 72, f 73], []⟩ _
  simp only at h0 h4 h5
  simp only [h0, h4, h5]
  clear h0 h4 h5
  conv => arg 2; whnf
  go_wp2
  go_ret2
  exact ⟨rfl, B.out⟩
set_option maxRecDepth 100000 in
set_option maxHeartbeats 2000000 in
theorem tr_g {Q : Exit → Act → World → Prop} (b TP : Nat) (kd X : Int) (ng qu : Bool) (M LD : Nat) (g : Nat) (a : Act) (w : World) (r : Hid (w.heap[g]? = some (.cells #[.int .i64 kd, .bool ng, .int .u64 (M : Int), .int .i64 X, .bool qu, .int .u64 (LD : Int)] 27 (0, 0)))) (h4 : (kd == 4) = false) (h3 : (kd == 3) = false) (h0 : (kd == 0) = false) (h : ¬ 0 ≤ X) (hK : Hid (∀ a, At 74 [(4, .pointer (some ⟨g, 0, none⟩)), (6, .int .u64 (M : Int)), (7, .int .u64 ((0 : Nat) : Int)), (8, .int .u64 ((1 : Nat) : Int))] a → Code.wp Try.prog (sq 7 body28) Q a w)) (ha : At 74 [(0, .int .u64 (b : Int)), (4, .pointer (some ⟨g, 0, none⟩)), (5, .int .u64 (TP : Int))] a) : Code.wp Try.prog (sq 3 body28) Q a w := by
  obtain ⟨m0, m1, m2, m3, m4, m5⟩ := cells6 r.out
  obtain ⟨f, rfl, h0, h4, h5, -⟩ := ha.lit
  change Code.wp _ _ _ ⟨#[f 0, f 1, f 2, f 3, f 4, f 5, f 6, f 7, f 8, f 9, f 10, f 11, f 12, f 13, f 14, f 15, f 16, f 17, f 18, f 19, f 20, f 21, f 22, f 23, f 24, f 25, f 26, f 27, f 28, f 29, f 30, f 31, f 32, f 33, f 34, f 35, f 36, f 37, f 38, f 39, f 40, f 41, f 42, f 43, f 44, f 45, f 46, f 47, f 48, f 49, f 50, f 51, f 52, f 53, f 54, f 55, f 56, f 57, f 58, f 59, f 60, f 61, f 62, f 63, f 64, f 65, f 66, f 67, f 68, f 69, f 70, f 71, f 72, f 73], []⟩ _
  simp only at h0 h4 h5
  simp only [h0, h4, h5]
  clear h0 h4 h5
  change Code.wp _ (Code.seq (hd (sq 3 body28)) (Code.seq (hd (sq 4 body28)) (Code.seq (hd (sq 5 body28)) (Code.seq (hd (sq 6 body28)) (sq 7 body28))))) _ _ _
  generalize sq 7 body28 = REST at hK ⊢
  conv => arg 2; arg 1; whnf
  conv => arg 2; arg 2; arg 1; whnf
  conv => arg 2; arg 2; arg 2; arg 1; whnf
  conv => arg 2; arg 2; arg 2; arg 2; arg 1; whnf
  go_wp2
  exact hK.out _ ⟨rfl, rfl, rfl, rfl, rfl, rfl, trivial⟩
set_option maxRecDepth 100000 in
set_option maxHeartbeats 2000000 in
theorem tr_l {Q : Exit → Act → World → Prop} (kd X : Int) (ng qu : Bool) (M LD : Nat) (g j : Nat) (a : Act) (w : World) (r : Hid (w.heap[g]? = some (.cells #[.int .i64 kd, .bool ng, .int .u64 (M : Int), .int .i64 X, .bool qu, .int .u64 (LD : Int)] 27 (0, 0)))) (hj : X = -(j : Int)) (hX : -20000 ≤ X) (hM : M < 9007199254740992) (hK : Hid (∀ a, At 74 [(4, .pointer (some ⟨g, 0, none⟩)), (6, .int .u64 ((M / 2 ^ j : Nat) : Int)), (7, .int .u64 ((M % 2 ^ j : Nat) : Int))] a → Code.wp Try.prog (sq 8 body28) Q a w)) (ha : At 74 [(4, .pointer (some ⟨g, 0, none⟩)), (6, .int .u64 (M : Int)), (7, .int .u64 ((0 : Nat) : Int)), (8, .int .u64 ((1 : Nat) : Int))] a) : Code.wp Try.prog (sq 7 body28) Q a w := by
  obtain ⟨m0, m1, m2, m3, m4, m5⟩ := cells6 r.out
  obtain ⟨f, rfl, h4, h6, h7, h8, -⟩ := ha.lit
  change Code.wp _ _ _ ⟨#[f 0, f 1, f 2, f 3, f 4, f 5, f 6, f 7, f 8, f 9, f 10, f 11, f 12, f 13, f 14, f 15, f 16, f 17, f 18, f 19, f 20, f 21, f 22, f 23, f 24, f 25, f 26, f 27, f 28, f 29, f 30, f 31, f 32, f 33, f 34, f 35, f 36, f 37, f 38, f 39, f 40, f 41, f 42, f 43, f 44, f 45, f 46, f 47, f 48, f 49, f 50, f 51, f 52, f 53, f 54, f 55, f 56, f 57, f 58, f 59, f 60, f 61, f 62, f 63, f 64, f 65, f 66, f 67, f 68, f 69, f 70, f 71, f 72, f 73], []⟩ _
  simp only at h4 h6 h7 h8
  simp only [h4, h6, h7, h8]
  clear h4 h6 h7 h8
  change Code.wp _ (Code.seq (hd (sq 7 body28)) (sq 8 body28)) _ _ _
  generalize sq 8 body28 = REST at hK ⊢
  conv => arg 2; arg 1; whnf
  replace hj := show Hid _ from hj
  go_wp2
  refine wp_loop_ghost_k (fun m a w' => ∃ i : Nat, i ≤ j ∧ m = j - i ∧ At 74 [(4, .pointer (some ⟨g, 0, none⟩)), (6, .int .u64 ((M / 2 ^ i : Nat) : Int)), (7, .int .u64 ((M % 2 ^ i : Nat) : Int)), (8, .int .u64 ((2 ^ i % 18446744073709551616 : Nat) : Int)), (9, .int .i64 (X + i))] a ∧ w' = w) j ⟨0, Nat.zero_le _, rfl, by rw [Nat.pow_zero, Nat.div_one, Nat.mod_one, show X + ((0 : Nat) : Int) = X by omega]; exact ⟨rfl, rfl, rfl, rfl, rfl, rfl, rfl, trivial⟩, rfl⟩ ?_
  rintro m a w' ⟨i, hi, rfl, ha, rfl⟩ J0 K1 hJ hK1
  have hj1 := hj.out
  have hal : M / 2 ^ i < 9007199254740992 := Nat.lt_of_le_of_lt (Nat.div_le_self _ _) hM
  by_cases c : i < j
  · have hnew : M / 2 ^ (i + 1) = M / 2 ^ i / 2 := by rw [Nat.pow_succ, Nat.div_div_eq_div_mul]
    have hdiv : ((M / 2 ^ i : Nat) : Int).tdiv 2 = ((M / 2 ^ (i + 1) : Nat) : Int) := by
      rw [Int.tdiv_eq_ediv_of_nonneg (Int.natCast_nonneg _), hnew, Int.natCast_ediv]; rfl
    have hwa := u64_small (M / 2 ^ (i + 1)) (by have := Nat.div_le_self M (2 ^ (i + 1)); omega)
    have hmod : M % 2 ^ (i + 1) = M % 2 ^ i + 2 ^ i * (M / 2 ^ i % 2) := Nat.mod_pow_succ
    have hmul : IntKind.u64.wrap (((2 ^ i % 18446744073709551616 : Nat) : Int) * 2) = ((2 ^ (i + 1) % 18446744073709551616 : Nat) : Int) := by
      rw [u64_wrap, Nat.pow_succ, Int.natCast_emod, Int.natCast_emod, Int.natCast_mul]
      omega
    have hbit := bitE (M / 2 ^ i) (by omega)
    have hle := Nat.mod_le M (2 ^ (i + 1))
    have hsmall : M / 2 ^ i % 2 = 1 → 2 ^ i % 18446744073709551616 = 2 ^ i ∧ 2 ^ i < 9007199254740992 := fun h => by
      have h1 : 1 ≤ M / 2 ^ i := Nat.pos_of_ne_zero fun z => by rw [z] at h; exact absurd h (by decide)
      have h2 := (Nat.le_div_iff_mul_le (Nat.two_pow_pos i)).1 h1
      have h3 : 2 ^ i < 9007199254740992 := Nat.lt_of_le_of_lt (by rw [Nat.one_mul] at h2; exact h2) hM
      exact ⟨Nat.mod_eq_of_lt (Nat.lt_trans h3 (by decide)), h3⟩
    have hpos := Nat.two_pow_pos i
    have hyb : -50000 ≤ X + (i : Int) ∧ X + (i : Int) < 0 := by omega
    obtain ⟨hy1, hy2⟩ := hyb
    generalize hy : X + (i : Int) = y at *
    have hy := show Hid _ from hy
    have hc := show Hid _ from c
    have hJ := show Hid _ from hJ
    by_cases o : M / 2 ^ i % 2 = 1
    · obtain ⟨s1, s2⟩ := hsmall o
      rw [o, Nat.mul_one] at hmod
      rw [o, beq_self_eq_true] at hbit
      rw [s1] at hmul ha
      have hadd : IntKind.u64.wrap (((M % 2 ^ i : Nat) : Int) + ((2 ^ i : Nat) : Int)) = ((M % 2 ^ (i + 1) : Nat) : Int) := by
        rw [hmod, ← Int.natCast_add]
        exact u64_small _ (by omega)
      have hgt : (0 : Int) < ((2 ^ i : Nat) : Int) := by omega
      generalize ha' : M / 2 ^ (i + 1) = a' at *
      generalize M / 2 ^ i = b0 at *
      generalize hr' : M % 2 ^ (i + 1) = r' at *
      generalize M % 2 ^ i = r0 at *
      generalize hp' : 2 ^ (i + 1) % 18446744073709551616 = p' at *
      generalize 2 ^ i = p0 at *
      have ha' := show Hid _ from ha'
      have hr' := show Hid _ from hr'
      have hp' := show Hid _ from hp'
      clear hnew hi c hal hM hK m0 m1 m2 m3 m4 m5 hX hj1 hle hsmall hpos o s1 s2 hmod
      obtain ⟨f, rfl, h4, h6, h7, h8, h9, -⟩ := ha.lit
      change Code.wp _ _ _ ⟨#[f 0, f 1, f 2, f 3, f 4, f 5, f 6, f 7, f 8, f 9, f 10, f 11, f 12, f 13, f 14, f 15, f 16, f 17, f 18, f 19, f 20, f 21, f 22, f 23, f 24, f 25, f 26, f 27, f 28, f 29, f 30, f 31, f 32, f 33, f 34, f 35, f 36, f 37, f 38, f 39, f 40, f 41, f 42, f 43, f 44, f 45, f 46, f 47, f 48, f 49, f 50, f 51, f 52, f 53, f 54, f 55, f 56, f 57, f 58, f 59, f 60, f 61, f 62, f 63, f 64, f 65, f 66, f 67, f 68, f 69, f 70, f 71, f 72, f 73], []⟩ _
      simp only at h4 h6 h7 h8 h9
      simp only [h4, h6, h7, h8, h9]
      clear h4 h6 h7 h8 h9
      go_wp2
      exact Handed.intro (j - (i + 1)) (by have := hc.out; omega) (hJ.out _ _ _ ⟨i + 1, hc.out, rfl, by rw [ha'.out, hr'.out, hp'.out, show X + ((i + 1 : Nat) : Int) = y + 1 by have := hy.out; omega]; exact ⟨rfl, rfl, rfl, rfl, rfl, rfl, rfl, trivial⟩, rfl⟩)
    · have o0 : M / 2 ^ i % 2 = 0 := by omega
      rw [o0, Nat.mul_zero] at hmod
      replace hmod : M % 2 ^ (i + 1) = M % 2 ^ i := hmod
      rw [o0] at hbit
      replace hbit := hbit.trans (show ((0 : Nat) == 1) = false from rfl)
      rw [← hmod] at ha
      generalize ha' : M / 2 ^ (i + 1) = a' at *
      generalize M / 2 ^ i = b0 at *
      generalize hr' : M % 2 ^ (i + 1) = r' at *
      generalize hp' : 2 ^ (i + 1) % 18446744073709551616 = p' at *
      generalize 2 ^ i % 18446744073709551616 = p0 at *
      have ha' := show Hid _ from ha'
      have hr' := show Hid _ from hr'
      have hp' := show Hid _ from hp'
      clear hnew hi c hal hM hK m0 m1 m2 m3 m4 m5 hX hj1 hle hsmall hpos o o0 hmod
      obtain ⟨f, rfl, h4, h6, h7, h8, h9, -⟩ := ha.lit
      change Code.wp _ _ _ ⟨#[f 0, f 1, f 2, f 3, f 4, f 5, f 6, f 7, f 8, f 9, f 10, f 11, f 12, f 13, f 14, f 15, f 16, f 17, f 18, f 19, f 20, f 21, f 22, f 23, f 24, f 25, f 26, f 27, f 28, f 29, f 30, f 31, f 32, f 33, f 34, f 35, f 36, f 37, f 38, f 39, f 40, f 41, f 42, f 43, f 44, f 45, f 46, f 47, f 48, f 49, f 50, f 51, f 52, f 53, f 54, f 55, f 56, f 57, f 58, f 59, f 60, f 61, f 62, f 63, f 64, f 65, f 66, f 67, f 68, f 69, f 70, f 71, f 72, f 73], []⟩ _
      simp only at h4 h6 h7 h8 h9
      simp only [h4, h6, h7, h8, h9]
      clear h4 h6 h7 h8 h9
      go_wp2
      exact Handed.intro (j - (i + 1)) (by have := hc.out; omega) (hJ.out _ _ _ ⟨i + 1, hc.out, rfl, by rw [ha'.out, hr'.out, hp'.out, show X + ((i + 1 : Nat) : Int) = y + 1 by have := hy.out; omega]; exact ⟨rfl, rfl, rfl, rfl, rfl, rfl, rfl, trivial⟩, rfl⟩)
  · have hil : i = j := by omega
    subst hil
    have hy : X + (i : Int) = 0 := by omega
    rw [hy] at ha
    clear c hi hJ hK1 hal hM m0 m1 m2 m3 m4 m5 hX hj1 hj hy
    generalize M / 2 ^ i = q0 at *
    generalize M % 2 ^ i = q1 at *
    generalize 2 ^ i % 18446744073709551616 = q2 at *
    obtain ⟨f, rfl, h4, h6, h7, h8, h9, -⟩ := ha.lit
    change Code.wp _ _ _ ⟨#[f 0, f 1, f 2, f 3, f 4, f 5, f 6, f 7, f 8, f 9, f 10, f 11, f 12, f 13, f 14, f 15, f 16, f 17, f 18, f 19, f 20, f 21, f 22, f 23, f 24, f 25, f 26, f 27, f 28, f 29, f 30, f 31, f 32, f 33, f 34, f 35, f 36, f 37, f 38, f 39, f 40, f 41, f 42, f 43, f 44, f 45, f 46, f 47, f 48, f 49, f 50, f 51, f 52, f 53, f 54, f 55, f 56, f 57, f 58, f 59, f 60, f 61, f 62, f 63, f 64, f 65, f 66, f 67, f 68, f 69, f 70, f 71, f 72, f 73], []⟩ _
    simp only at h4 h6 h7 h8 h9
    simp only [h4, h6, h7, h8, h9]
    clear h4 h6 h7 h8 h9
    go_wp2
    exact hK.out _ ⟨rfl, rfl, rfl, rfl, rfl, trivial⟩
set_option maxRecDepth 100000 in
set_option maxHeartbeats 2000000 in
theorem tr_e (kd X : Int) (ng qu : Bool) (M LD : Nat) (g Q0 RE V1 V2 : Nat) (a : Act) (w0 w : World) (B : Hid (Below w0.heap.size w0 w)) (r : Hid (w.heap[g]? = some (.cells #[.int .i64 kd, .bool ng, .int .u64 (M : Int), .int .i64 X, .bool qu, .int .u64 (LD : Int)] 27 (0, 0)))) (k15 : ∀ w, Calls Try.prog 15 #[.bool ng, .int .u64 (Q0 : Int), .int .i64 0, .bool false, .agg #[.int .i64 52, .int .i64 2047, .int .i64 1023]] w fun e w' => e = .returned (.int .u64 (V1 : Int)) ∧ Below w.heap.size w w') (k15b : ∀ w, Calls Try.prog 15 #[.bool ng, .int .u64 (RE : Int), .int .i64 X, .bool false, .agg #[.int .i64 52, .int .i64 2047, .int .i64 1023]] w fun e w' => e = .returned (.int .u64 (V2 : Int)) ∧ Below w.heap.size w w') (ha : At 74 [(4, .pointer (some ⟨g, 0, none⟩)), (6, .int .u64 (Q0 : Int)), (7, .int .u64 (RE : Int))] a) : Code.wp Try.prog (sq 8 body28) (bodyPost Try.prog Try.f28 fun e w' => e = .returned (.tuple #[.int .u64 (V1 : Int), .int .u64 (V2 : Int)]) ∧ Below w0.heap.size w0 w') a w := by
  have k12 := k16l
  unfold k16L at k12
  obtain ⟨f, rfl, h4, h6, h7, -⟩ := ha.lit
  change Code.wp _ _ _ ⟨#[f 0, f 1, f 2, f 3, f 4, f 5, f 6, f 7, f 8, f 9, f 10, f 11, f 12, f 13, f 14, f 15, f 16, f 17, f 18, f 19, f 20, f 21, f 22, f 23, f 24, f 25, f 26, f 27, f 28, f 29, f 30, f 31, f 32, f 33, f 34, f 35, f 36, f 37, f 38, f 39, f 40, f 41, f 42, f 43, f 44, f 45, f 46, f 47, f 48, f 49, f 50, f 51, f 52, f 53, f 54, f 55, f 56, f 57, f 58, f 59, f 60, f 61, f 62, f 63, f 64, f 65, f 66, f 67, f 68, f 69, f 70, f 71, f 72, f 73], []⟩ _
  simp only at h4 h6 h7
  simp only [h4, h6, h7]
  clear h4 h6 h7
  conv => arg 2; whnf
  go_wp2
  refine wp_region_vals (a1 := ?a1r18n1) (grown _) [.pointer (some ⟨g, 1, none⟩), .bool ng, .int .u64 (Q0 : Int), .agg #[.int .i64 52, .int .i64 2047, .int .i64 1023], .int .u64 (V1 : Int), .pointer (some ⟨g, 1, none⟩), .bool ng, .int .u64 (RE : Int), .pointer (some ⟨g, 3, none⟩), .int .i64 X, .agg #[.int .i64 52, .int .i64 2047, .int .i64 1023], .int .u64 (V2 : Int), .int .u64 (V1 : Int), .int .u64 (V2 : Int)] 74 rfl (by kernel_rfl) (by kernel_rfl) (grown_start _) ⟨?o0r18n1, ?o1r18n1, ?o2r18n1, ?o3r18n1, ?o4r18n1, ?o5r18n1, ?o6r18n1, ?o7r18n1, ?o8r18n1, ?o9r18n1, ?o10r18n1, ?o11r18n1, ?o12r18n1, ?o13r18n1, trivial⟩ ?har18n1 ?hdoner18n1
  case har18n1 => simp [putAll, Act.put]; exact rfl
  case o0r18n1 => exact ValOp.pure (grown_steady _ 0) [(4, .pointer (some ⟨g, 0, none⟩))] rfl (fun _ _ h2 => ⟨(h2 4 (by kernel_rfl)).trans rfl, trivial⟩) (by kernel_rfl) (fun _ _ _ _ _ => by kernel_rfl)
  case o1r18n1 => exact ValOp.pure (grown_steady _ 1) [(62, .pointer (some ⟨g, 1, none⟩))] rfl (fun _ h1 _ => ⟨h1 0 62 (by kernel_rfl), trivial⟩) (by kernel_rfl) (fun _ _ _ hg _ => run_read rfl rfl (run_cell (below_at r.out hg) rfl (Try.isAgg4 _)))
  case o2r18n1 => exact ValOp.pure (grown_steady _ 2) [(6, .int .u64 (Q0 : Int))] rfl (fun _ _ h2 => ⟨(h2 6 (by kernel_rfl)).trans rfl, trivial⟩) (by kernel_rfl) (fun _ _ _ _ _ => by kernel_rfl)
  case o3r18n1 => exact ValOp.call (grown_steady _ 3) [] rfl (fun _ _ _ => trivial) (by kernel_rfl) 12 #[] (fun _ => by kernel_rfl) (fun _ w _ => k12 w)
  case o4r18n1 => exact ValOp.call (grown_steady _ 4) [(63, .bool ng), (64, .int .u64 (Q0 : Int)), (65, .agg #[.int .i64 52, .int .i64 2047, .int .i64 1023])] rfl (fun _ h1 _ => ⟨h1 1 63 (by kernel_rfl), h1 2 64 (by kernel_rfl), h1 3 65 (by kernel_rfl), trivial⟩) (by kernel_rfl) 15 #[.bool ng, .int .u64 (Q0 : Int), .int .i64 0, .bool false, .agg #[.int .i64 52, .int .i64 2047, .int .i64 1023]] (fun _ => by kernel_rfl) (fun _ w _ => k15 w)
  case o5r18n1 => exact ValOp.pure (grown_steady _ 5) [(4, .pointer (some ⟨g, 0, none⟩))] rfl (fun _ _ h2 => ⟨(h2 4 (by kernel_rfl)).trans rfl, trivial⟩) (by kernel_rfl) (fun _ _ _ _ _ => by kernel_rfl)
  case o6r18n1 => exact ValOp.pure (grown_steady _ 6) [(67, .pointer (some ⟨g, 1, none⟩))] rfl (fun _ h1 _ => ⟨h1 5 67 (by kernel_rfl), trivial⟩) (by kernel_rfl) (fun _ _ _ hg _ => run_read rfl rfl (run_cell (below_at r.out hg) rfl (Try.isAgg4 _)))
  case o7r18n1 => exact ValOp.pure (grown_steady _ 7) [(7, .int .u64 (RE : Int))] rfl (fun _ _ h2 => ⟨(h2 7 (by kernel_rfl)).trans rfl, trivial⟩) (by kernel_rfl) (fun _ _ _ _ _ => by kernel_rfl)
  case o8r18n1 => exact ValOp.pure (grown_steady _ 8) [(4, .pointer (some ⟨g, 0, none⟩))] rfl (fun _ _ h2 => ⟨(h2 4 (by kernel_rfl)).trans rfl, trivial⟩) (by kernel_rfl) (fun _ _ _ _ _ => by kernel_rfl)
  case o9r18n1 => exact ValOp.pure (grown_steady _ 9) [(70, .pointer (some ⟨g, 3, none⟩))] rfl (fun _ h1 _ => ⟨h1 8 70 (by kernel_rfl), trivial⟩) (by kernel_rfl) (fun _ _ _ hg _ => run_read rfl rfl (run_cell (below_at r.out hg) rfl (Try.isAgg3 _)))
  case o10r18n1 => exact ValOp.call (grown_steady _ 10) [] rfl (fun _ _ _ => trivial) (by kernel_rfl) 12 #[] (fun _ => by kernel_rfl) (fun _ w _ => k12 w)
  case o11r18n1 => exact ValOp.call (grown_steady _ 11) [(68, .bool ng), (69, .int .u64 (RE : Int)), (71, .int .i64 X), (72, .agg #[.int .i64 52, .int .i64 2047, .int .i64 1023])] rfl (fun _ h1 _ => ⟨h1 6 68 (by kernel_rfl), h1 7 69 (by kernel_rfl), h1 9 71 (by kernel_rfl), h1 10 72 (by kernel_rfl), trivial⟩) (by kernel_rfl) 15 #[.bool ng, .int .u64 (RE : Int), .int .i64 X, .bool false, .agg #[.int .i64 52, .int .i64 2047, .int .i64 1023]] (fun _ => by kernel_rfl) (fun _ w _ => k15b w)
  case o12r18n1 => exact ValOp.pure (grown_steady _ 12) [(66, .int .u64 (V1 : Int))] rfl (fun _ h1 _ => ⟨h1 4 66 (by kernel_rfl), trivial⟩) (by kernel_rfl) (fun _ _ _ _ _ => by kernel_rfl)
  case o13r18n1 => exact ValOp.pure (grown_steady _ 13) [(73, .int .u64 (V2 : Int))] rfl (fun _ h1 _ => ⟨h1 11 73 (by kernel_rfl), trivial⟩) (by kernel_rfl) (fun _ _ _ _ _ => by kernel_rfl)
  intro w1 s1 _ bb
  have B1 : Hid (Below w0.heap.size w0 w1) := B.out.trans ((show Below _ _ w1 from bb).mono B.out.size)
  clear bb
  go_wp2
  go_ret2
  exact ⟨rfl, B1.out⟩
set_option maxHeartbeats 1000000 in
theorem trunc_any (b : Nat) (w : World) (hb : b < 18446744073709551616) : Calls Try.prog 28 #[.int .u64 (b : Int)] w fun e w' => e = .returned (.tuple #[.int .u64 (modW (pt 52 11 1023 b) b : Int), .int .u64 (modR (pt 52 11 1023 b) b : Int)]) ∧ Below w.heap.size w w' := by
  have k11 := fun w => rparts_any lay64 b w hb
  have h34 := exp_34 b
  have hT : bits .and .u64 (b : Int) 9223372036854775808 = (((if (pt 52 11 1023 b).neg = true then 9223372036854775808 else 0) : Nat) : Int) := by
    rw [and_top b hb, neg_is hb]
    by_cases c : b < 9223372036854775808
    · rw [if_pos c, if_neg (by simp; omega)]; rfl
    · rw [if_neg c, if_pos (by simp; omega)]; rfl
  obtain ⟨xm, xe1, xe2, xk, xp, xz, xq, xn, xz0, xs0⟩ := pt_range b
  unfold modW modR
  generalize pt 52 11 1023 b = x at *
  obtain ⟨kd, ng, M, X, qu, LD⟩ := x
  unfold Pt.val at k11
  dsimp only at *
  refine tr_a b _ kd X ng qu M LD w hT k11 fun a w1 g B1 r1 ha => ?_
  by_cases c4 : kd = 4
  · rw [if_pos c4, if_pos (show 0 ≤ X by omega)]
    exact tr_4 b _ kd X ng qu M LD g a w w1 B1 r1 c4 ha
  rw [if_neg c4]
  by_cases hX : 0 ≤ X
  · rw [if_pos hX, if_pos hX, Nat.add_zero]
    by_cases c3 : kd = 3
    · exact tr_3 b _ kd X ng qu M LD g a w w1 B1 r1 c3 ha
    by_cases c0 : kd = 0
    · exact tr_0 b _ kd X ng qu M LD g a w w1 B1 r1 c0 ha
    · exact tr_p b _ kd X ng qu M LD g a w w1 B1 r1 (beq_eq_false_iff_ne.2 c4) (beq_eq_false_iff_ne.2 c3) (beq_eq_false_iff_ne.2 c0) hX ha
  · rw [if_neg hX, if_neg hX]
    obtain ⟨j, hj⟩ : ∃ j : Nat, -X = j := ⟨_, (Int.toNat_of_nonneg (by omega)).symm⟩
    rw [hj, Int.toNat_natCast]
    refine tr_g b _ kd X ng qu M LD g a w1 r1 (beq_eq_false_iff_ne.2 c4) (beq_eq_false_iff_ne.2 (by omega)) (beq_eq_false_iff_ne.2 (by omega)) hX (fun a ha => ?_) ha
    refine tr_l kd X ng qu M LD g j a w1 r1 (by omega) (by omega) xm (fun a ha => ?_) ha
    have l1 := Nat.div_le_self M (2 ^ j)
    have l2 := Nat.mod_le M (2 ^ j)
    have k15 := fun w => rrounded_all lay64 ng (M / 2 ^ j) 0 w (fun _ => by decide) (by omega) (by omega) (by omega)
    have k15b := fun w => rrounded_all lay64 ng (M % 2 ^ j) X w (fun _ => by omega) (by omega) (by omega) (by omega)
    exact tr_e kd X ng qu M LD g _ _ _ _ a w w1 B1 r1 k15 k15b ha
end Go.Proofs.Ytjcjecbffnadaab
