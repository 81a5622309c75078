/-
  The contracts of Power, the code's and the document's. Condition: the float's bits fit.
-/
import Derived.Test.YtjcjecbffnadaabRd1
import Derived.Test.YtjcjecbffnadaabLawW
import Derived.Deep.LoopGhost
import Derived.BigRegion
namespace Go.Proofs.Ytjcjecbffnadaab
open Go.RowKit
noncomputable def body29 : Code := Try.f29.body.getD .skip
noncomputable def body30 : Code := Try.f30.body.getD .skip
set_option maxRecDepth 100000 in
set_option maxHeartbeats 2000000 in
theorem pw_a {Q : Ending → World → Prop} (b : Nat) (kd X : Int) (ng qu : Bool) (M LD : Nat) (w : World) (k46 : ∀ w, Calls Try.prog 46 #[.float .f64 b] w fun e w' => e = .returned (.agg #[.int .i64 kd, .bool ng, .int .u64 (M : Int), .int .i64 X, .bool qu, .int .u64 (LD : Int)]) ∧ Below w.heap.size w w')
    (hK : Hid (∀ a w' g, Below w.heap.size w w' → w'.heap[g]? = some (.cells #[.int .i64 kd, .bool ng, .int .u64 (M : Int), .int .i64 X, .bool qu, .int .u64 (LD : Int)] 66 (0, 0)) → At 22 [(4, .pointer (some ⟨g, 0, none⟩))] a → Code.wp Try.prog (sq 2 body29) (bodyPost Try.prog Try.f29 Q) a w')) : Calls Try.prog 29 #[.float .f64 b] w Q := by
  go_enter Try.func29, Try.ntmps29
  change Code.wp _ (Code.seq (hd (sq 0 body29)) (Code.seq (hd (sq 1 body29)) (sq 2 body29))) _ _ _
  generalize sq 2 body29 = REST at hK ⊢
  conv => arg 2; arg 1; whnf
  conv => arg 2; arg 2; arg 1; whnf
  go_wp2_with (go_at_call 46; refine (k46 _).mono ?_)
  intro e1 w1 hq
  first | (obtain ⟨rfl, b1⟩ : _ ∧ _ := hq) | (subst hq; intro b1)
  have B1 : Hid (Below w.heap.size w (w1.alloc (.cells #[.int .i64 kd, .bool ng, .int .u64 (M : Int), .int .i64 X, .bool qu, .int .u64 (LD : Int)] 66))) := b1.alloc b1.size _
  have r1 : Hid ((w1.alloc (.cells #[.int .i64 kd, .bool ng, .int .u64 (M : Int), .int .i64 X, .bool qu, .int .u64 (LD : Int)] 66)).heap[w1.heap.size]? = some (.cells #[.int .i64 kd, .bool ng, .int .u64 (M : Int), .int .i64 X, .bool qu, .int .u64 (LD : Int)] 66 (0, 0))) := heap_alloc_last _ _
  clear b1
  go_wp2
  exact hK.out _ _ _ B1.out r1.out ⟨rfl, rfl, rfl, trivial⟩
set_option maxRecDepth 100000 in
set_option maxHeartbeats 2000000 in
theorem pw_x (kd X : Int) (ng qu : Bool) (M LD : Nat) (g : Nat) (a : Act) (w0 w : World) (B : Hid (Below w0.heap.size w0 w)) (r : Hid (w.heap[g]? = some (.cells #[.int .i64 kd, .bool ng, .int .u64 (M : Int), .int .i64 X, .bool qu, .int .u64 (LD : Int)] 66 (0, 0))))  (k57 : ∀ w, Calls Try.prog 57 #[.agg #[.int .i64 kd, .bool ng, .int .u64 (M : Int), .int .i64 X, .bool qu, .int .u64 (LD : Int)]] w fun e w' => e = .returned (.bool false) ∧ Below w.heap.size w w') (ha : At 22 [(4, .pointer (some ⟨g, 0, none⟩))] a) : Code.wp Try.prog (sq 2 body29) (bodyPost Try.prog Try.f29 fun e w' => e = .returned (.tuple #[.int .i64 0, .bool false]) ∧ Below w0.heap.size w0 w') a w := by
  obtain ⟨n0, n1, n2, n3, n4, n5⟩ := cells6 r.out
  obtain ⟨f, rfl, h4, -⟩ := ha.lit
  change Code.wp _ _ _ ⟨#[f 0, f 1, f 2, f 3, f 4, f 5, f 6, f 7, f 8, f 9, f 10, f 11, f 12, f 13, f 14, f 15, f 16, f 17, f 18, f 19, f 20, f 21], []⟩ _
  simp only at h4
  simp only [h4]
  clear h4
  conv => arg 2; whnf
  go_wp2_with (go_at_call 57; refine (k57 _).mono ?_)
  intro e1 w1 hq
  first | (obtain ⟨rfl, b1⟩ : _ ∧ _ := hq) | (subst hq; intro b1)
  clear n0 n1 n2 n3 n4 n5
  have r1 := below_at r.out b1
  obtain ⟨m0, m1, m2, m3, m4, m5⟩ := cells6 r1
  have hr1 := show Hid _ from r1
  have B1 : Hid (Below w0.heap.size w0 w1) := B.out.trans (b1.mono B.out.size)
  clear b1 r1
  go_wp2
  go_ret2
  exact ⟨rfl, B1.out⟩
set_option maxRecDepth 100000 in
set_option maxHeartbeats 2000000 in
theorem pw_z (kd X : Int) (ng qu : Bool) (M LD : Nat) (g : Nat) (a : Act) (w0 w : World) (B : Hid (Below w0.heap.size w0 w)) (r : Hid (w.heap[g]? = some (.cells #[.int .i64 kd, .bool ng, .int .u64 (M : Int), .int .i64 X, .bool qu, .int .u64 (LD : Int)] 66 (0, 0)))) (h : M = 0) (k57 : ∀ w, Calls Try.prog 57 #[.agg #[.int .i64 kd, .bool ng, .int .u64 (M : Int), .int .i64 X, .bool qu, .int .u64 (LD : Int)]] w fun e w' => e = .returned (.bool true) ∧ Below w.heap.size w w') (ha : At 22 [(4, .pointer (some ⟨g, 0, none⟩))] a) : Code.wp Try.prog (sq 2 body29) (bodyPost Try.prog Try.f29 fun e w' => e = .returned (.tuple #[.int .i64 0, .bool false]) ∧ Below w0.heap.size w0 w') a w := by
  subst h
  obtain ⟨n0, n1, n2, n3, n4, n5⟩ := cells6 r.out
  obtain ⟨f, rfl, h4, -⟩ := ha.lit
  change Code.wp _ _ _ ⟨#[f 0, f 1, f 2, f 3, f 4, f 5, f 6, f 7, f 8, f 9, f 10, f 11, f 12, f 13, f 14, f 15, f 16, f 17, f 18, f 19, f 20, f 21], []⟩ _
  simp only at h4
  simp only [h4]
  clear h4
  conv => arg 2; whnf
  go_wp2_with (go_at_call 57; refine (k57 _).mono ?_)
  intro e1 w1 hq
  first | (obtain ⟨rfl, b1⟩ : _ ∧ _ := hq) | (subst hq; intro b1)
  clear n0 n1 n2 n3 n4 n5
  have r1 := below_at r.out b1
  obtain ⟨m0, m1, m2, m3, m4, m5⟩ := cells6 r1
  have hr1 := show Hid _ from r1
  have B1 : Hid (Below w0.heap.size w0 w1) := B.out.trans (b1.mono B.out.size)
  clear b1 r1
  go_wp2
  go_ret2
  exact ⟨rfl, B1.out⟩
set_option maxRecDepth 100000 in
set_option maxHeartbeats 2000000 in
theorem pw_g (kd X : Int) (ng qu : Bool) (M LD : Nat) (g LN : Nat) (Y Z : Int) (a : Act) (w0 w : World) (B : Hid (Below w0.heap.size w0 w)) (r : Hid (w.heap[g]? = some (.cells #[.int .i64 kd, .bool ng, .int .u64 (M : Int), .int .i64 X, .bool qu, .int .u64 (LD : Int)] 66 (0, 0)))) (h : ((M : Int) == 0) = false) (hY : IntKind.i64.wrap (X + (LN : Int)) = Y) (hZ : IntKind.i64.wrap (Y - 1) = Z) (k57 : ∀ w, Calls Try.prog 57 #[.agg #[.int .i64 kd, .bool ng, .int .u64 (M : Int), .int .i64 X, .bool qu, .int .u64 (LD : Int)]] w fun e w' => e = .returned (.bool true) ∧ Below w.heap.size w w') (k58 : ∀ w, Calls Try.prog 58 #[.int .u64 (M : Int)] w fun e w' => e = .returned (.int .i64 (LN : Nat)) ∧ Below w.heap.size w w') (ha : At 22 [(4, .pointer (some ⟨g, 0, none⟩))] a) : Code.wp Try.prog (sq 2 body29) (bodyPost Try.prog Try.f29 fun e w' => e = .returned (.tuple #[.int .i64 Z, .bool true]) ∧ Below w0.heap.size w0 w') a w := by
  obtain ⟨n0, n1, n2, n3, n4, n5⟩ := cells6 r.out
  obtain ⟨f, rfl, h4, -⟩ := ha.lit
  change Code.wp _ _ _ ⟨#[f 0, f 1, f 2, f 3, f 4, f 5, f 6, f 7, f 8, f 9, f 10, f 11, f 12, f 13, f 14, f 15, f 16, f 17, f 18, f 19, f 20, f 21], []⟩ _
  simp only at h4
  simp only [h4]
  clear h4
  conv => arg 2; whnf
  go_wp2_with (go_at_call 57; refine (k57 _).mono ?_)
  intro e1 w1 hq
  first | (obtain ⟨rfl, b1⟩ : _ ∧ _ := hq) | (subst hq; intro b1)
  clear n0 n1 n2 n3 n4 n5
  have r1 := below_at r.out b1
  obtain ⟨m0, m1, m2, m3, m4, m5⟩ := cells6 r1
  have hr1 := show Hid _ from r1
  have B1 : Hid (Below w0.heap.size w0 w1) := B.out.trans (b1.mono B.out.size)
  clear b1 r1
  go_wp2
  clear m0 m1 m2 m3 m4 m5
  refine wp_region_vals (a1 := ?a1r4n1) (grown _) [.pointer (some ⟨g, 3, none⟩), .int .i64 X, .pointer (some ⟨g, 2, none⟩), .int .u64 (M : Int), .int .i64 (LN : Nat), .int .i64 Y, .int .i64 Z, .int .i64 Z, .bool true] 22 rfl (by kernel_rfl) (by kernel_rfl) (grown_start _) ⟨?o0r4n1, ?o1r4n1, ?o2r4n1, ?o3r4n1, ?o4r4n1, ?o5r4n1, ?o6r4n1, ?o7r4n1, ?o8r4n1, trivial⟩ ?har4n1 ?hdoner4n1
  case har4n1 => simp [putAll, Act.put]; exact rfl
  case o0r4n1 => exact ValOp.pure (grown_steady _ 0) [(4, .pointer (some ⟨g, 0, none⟩))] rfl (fun _ _ h2 => ⟨(h2 4 (by kernel_rfl)).trans rfl, trivial⟩) (by kernel_rfl) (fun _ _ _ _ _ => by kernel_rfl)
  case o1r4n1 => exact ValOp.pure (grown_steady _ 1) [(15, .pointer (some ⟨g, 3, none⟩))] rfl (fun _ h1 _ => ⟨h1 0 15 (by kernel_rfl), trivial⟩) (by kernel_rfl) (fun _ _ _ hg _ => run_read rfl rfl (run_cell (below_at hr1.out hg) rfl (Try.isAgg3 _)))
  case o2r4n1 => exact ValOp.pure (grown_steady _ 2) [(4, .pointer (some ⟨g, 0, none⟩))] rfl (fun _ _ h2 => ⟨(h2 4 (by kernel_rfl)).trans rfl, trivial⟩) (by kernel_rfl) (fun _ _ _ _ _ => by kernel_rfl)
  case o3r4n1 => exact ValOp.pure (grown_steady _ 3) [(17, .pointer (some ⟨g, 2, none⟩))] rfl (fun _ h1 _ => ⟨h1 2 17 (by kernel_rfl), trivial⟩) (by kernel_rfl) (fun _ _ _ hg _ => run_read rfl rfl (run_cell (below_at hr1.out hg) rfl (Try.isAgg22 _)))
  case o4r4n1 => exact ValOp.call (grown_steady _ 4) [(18, .int .u64 (M : Int))] rfl (fun _ h1 _ => ⟨h1 3 18 (by kernel_rfl), trivial⟩) (by kernel_rfl) 58 #[.int .u64 (M : Int)] (fun _ => by kernel_rfl) (fun _ w _ => k58 w)
  case o5r4n1 => exact ValOp.pure (grown_steady _ 5) [(16, .int .i64 X), (19, .int .i64 (LN : Nat))] rfl (fun _ h1 _ => ⟨h1 1 16 (by kernel_rfl), h1 4 19 (by kernel_rfl), trivial⟩) (by kernel_rfl) (fun _ _ _ _ _ => run_bin (a := .int .i64 X) (b := .int .i64 (LN : Nat)) rfl rfl rfl (by kernel_rfl) (by simp [go_sem, hY]))
  case o6r4n1 => exact ValOp.pure (grown_steady _ 6) [(20, .int .i64 Y)] rfl (fun _ h1 _ => ⟨h1 5 20 (by kernel_rfl), trivial⟩) (by kernel_rfl) (fun _ _ _ _ _ => run_bin (a := .int .i64 Y) (b := .int .i64 1) rfl rfl rfl (by kernel_rfl) (by simp [go_sem, hZ]))
  case o7r4n1 => exact ValOp.pure (grown_steady _ 7) [(21, .int .i64 Z)] rfl (fun _ h1 _ => ⟨h1 6 21 (by kernel_rfl), trivial⟩) (by kernel_rfl) (fun _ _ _ _ _ => by kernel_rfl)
  case o8r4n1 => exact ValOp.pure (grown_steady _ 8) [] rfl (fun _ _ _ => trivial) (by kernel_rfl) (fun _ _ _ _ _ => by kernel_rfl)
  intro w2 s2 _ bb
  have B2 : Hid (Below w0.heap.size w0 w2) := B1.out.trans ((show Below _ _ w2 from bb).mono B1.out.size)
  clear bb
  go_wp2
  go_ret2
  exact ⟨rfl, B2.out⟩
set_option maxRecDepth 100000 in
set_option maxHeartbeats 2000000 in
theorem rp_a {Q : Ending → World → Prop} (b : Nat) (kd X : Int) (ng qu : Bool) (M LD : Nat) (w : World) (k11 : ∀ w, Calls Try.prog 11 #[.int .u64 (b : Int), .agg #[.int .i64 52, .int .i64 2047, .int .i64 1023]] w fun e w' => e = .returned (.agg #[.int .i64 kd, .bool ng, .int .u64 (M : Int), .int .i64 X, .bool qu, .int .u64 (LD : Int)]) ∧ Below w.heap.size w w')
    (hK : Hid (∀ a w' g, Below w.heap.size w w' → w'.heap[g]? = some (.cells #[.int .i64 kd, .bool ng, .int .u64 (M : Int), .int .i64 X, .bool qu, .int .u64 (LD : Int)] 27 (0, 0)) → At 29 [(4, .pointer (some ⟨g, 0, none⟩))] a → Code.wp Try.prog (sq 2 body30) (bodyPost Try.prog Try.f30 Q) a w')) : Calls Try.prog 30 #[.int .u64 (b : Int)] w Q := by
  have k12 := k16l
  unfold k16L at k12
  go_enter Try.func30, Try.ntmps30
  change Code.wp _ (Code.seq (hd (sq 0 body30)) (Code.seq (hd (sq 1 body30)) (sq 2 body30))) _ _ _
  generalize sq 2 body30 = REST at hK ⊢
  conv => arg 2; arg 1; whnf
  conv => arg 2; arg 2; arg 1; whnf
  go_wp2_with (go_at_call 12; refine (k12 _).mono ?_)
  intro e1 w1 hq
  first | (obtain ⟨rfl, b1⟩ : _ ∧ _ := hq) | (subst hq; intro b1)
  go_wp2_with (go_at_call 11; refine (k11 _).mono ?_)
  intro e2 w2 hq
  first | (obtain ⟨rfl, b2⟩ : _ ∧ _ := hq) | (subst hq; intro b2)
  have B0 : Below w.heap.size w w2 := b1.trans (b2.mono b1.size)
  have B1 : Hid (Below w.heap.size w (w2.alloc (.cells #[.int .i64 kd, .bool ng, .int .u64 (M : Int), .int .i64 X, .bool qu, .int .u64 (LD : Int)] 27))) := B0.alloc B0.size _
  have r1 : Hid ((w2.alloc (.cells #[.int .i64 kd, .bool ng, .int .u64 (M : Int), .int .i64 X, .bool qu, .int .u64 (LD : Int)] 27)).heap[w2.heap.size]? = some (.cells #[.int .i64 kd, .bool ng, .int .u64 (M : Int), .int .i64 X, .bool qu, .int .u64 (LD : Int)] 27 (0, 0))) := heap_alloc_last _ _
  clear b1 b2 B0
  go_wp2
  exact hK.out _ _ _ B1.out r1.out ⟨rfl, rfl, rfl, trivial⟩
set_option maxRecDepth 100000 in
set_option maxHeartbeats 2000000 in
theorem rp_0 (kd X : Int) (ng qu : Bool) (M LD : Nat) (g : Nat) (a : Act) (w0 w : World) (B : Hid (Below w0.heap.size w0 w)) (r : Hid (w.heap[g]? = some (.cells #[.int .i64 kd, .bool ng, .int .u64 (M : Int), .int .i64 X, .bool qu, .int .u64 (LD : Int)] 27 (0, 0)))) (h : kd = 0) (ha : At 29 [(4, .pointer (some ⟨g, 0, none⟩))] a) : Code.wp Try.prog (sq 2 body30) (bodyPost Try.prog Try.f30 fun e w' => e = .returned (.tuple #[.int .i64 0, .bool false]) ∧ Below w0.heap.size w0 w') a w := by
  subst h
  obtain ⟨m0, m1, m2, m3, m4, m5⟩ := cells6 r.out
  obtain ⟨f, rfl, h4, -⟩ := ha.lit
  change Code.wp _ _ _ ⟨#[f 0, f 1, f 2, f 3, f 4, f 5, f 6, f 7, f 8, f 9, f 10, f 11, f 12, f 13, f 14, f 15, f 16, f 17, f 18, f 19, f 20, f 21, f 22, f 23, f 24, f 25, f 26, f 27, f 28], []⟩ _
  simp only at h4
  simp only [h4]
  clear h4
  conv => arg 2; whnf
  go_wp2
  go_ret2
  exact ⟨rfl, B.out⟩
set_option maxRecDepth 100000 in
set_option maxHeartbeats 2000000 in
theorem rp_3 (kd X : Int) (ng qu : Bool) (M LD : Nat) (g : Nat) (a : Act) (w0 w : World) (B : Hid (Below w0.heap.size w0 w)) (r : Hid (w.heap[g]? = some (.cells #[.int .i64 kd, .bool ng, .int .u64 (M : Int), .int .i64 X, .bool qu, .int .u64 (LD : Int)] 27 (0, 0)))) (h : kd = 3) (ha : At 29 [(4, .pointer (some ⟨g, 0, none⟩))] a) : Code.wp Try.prog (sq 2 body30) (bodyPost Try.prog Try.f30 fun e w' => e = .returned (.tuple #[.int .i64 0, .bool false]) ∧ Below w0.heap.size w0 w') a w := by
  subst h
  obtain ⟨m0, m1, m2, m3, m4, m5⟩ := cells6 r.out
  obtain ⟨f, rfl, h4, -⟩ := ha.lit
  change Code.wp _ _ _ ⟨#[f 0, f 1, f 2, f 3, f 4, f 5, f 6, f 7, f 8, f 9, f 10, f 11, f 12, f 13, f 14, f 15, f 16, f 17, f 18, f 19, f 20, f 21, f 22, f 23, f 24, f 25, f 26, f 27, f 28], []⟩ _
  simp only at h4
  simp only [h4]
  clear h4
  conv => arg 2; whnf
  go_wp2
  go_ret2
  exact ⟨rfl, B.out⟩
set_option maxRecDepth 100000 in
set_option maxHeartbeats 2000000 in
theorem rp_4 (kd X : Int) (ng qu : Bool) (M LD : Nat) (g : Nat) (a : Act) (w0 w : World) (B : Hid (Below w0.heap.size w0 w)) (r : Hid (w.heap[g]? = some (.cells #[.int .i64 kd, .bool ng, .int .u64 (M : Int), .int .i64 X, .bool qu, .int .u64 (LD : Int)] 27 (0, 0)))) (h : kd = 4) (ha : At 29 [(4, .pointer (some ⟨g, 0, none⟩))] a) : Code.wp Try.prog (sq 2 body30) (bodyPost Try.prog Try.f30 fun e w' => e = .returned (.tuple #[.int .i64 0, .bool false]) ∧ Below w0.heap.size w0 w') a w := by
  subst h
  obtain ⟨m0, m1, m2, m3, m4, m5⟩ := cells6 r.out
  obtain ⟨f, rfl, h4, -⟩ := ha.lit
  change Code.wp _ _ _ ⟨#[f 0, f 1, f 2, f 3, f 4, f 5, f 6, f 7, f 8, f 9, f 10, f 11, f 12, f 13, f 14, f 15, f 16, f 17, f 18, f 19, f 20, f 21, f 22, f 23, f 24, f 25, f 26, f 27, f 28], []⟩ _
  simp only at h4
  simp only [h4]
  clear h4
  conv => arg 2; whnf
  go_wp2
  go_ret2
  exact ⟨rfl, B.out⟩
set_option maxRecDepth 100000 in
set_option maxHeartbeats 2000000 in
theorem rp_1 {Q : Exit → Act → World → Prop} (kd X : Int) (ng qu : Bool) (M LD : Nat) (g : Nat) (a : Act) (w : World) (r : Hid (w.heap[g]? = some (.cells #[.int .i64 kd, .bool ng, .int .u64 (M : Int), .int .i64 X, .bool qu, .int .u64 (LD : Int)] 27 (0, 0)))) (h : kd = 1) (hK : Hid (∀ a, At 29 [(4, .pointer (some ⟨g, 0, none⟩)), (5, .int .i64 X)] a → Code.wp Try.prog (sq 4 body30) Q a w)) (ha : At 29 [(4, .pointer (some ⟨g, 0, none⟩))] a) : Code.wp Try.prog (sq 2 body30) Q a w := by
  subst h
  obtain ⟨m0, m1, m2, m3, m4, m5⟩ := cells6 r.out
  obtain ⟨f, rfl, h4, -⟩ := ha.lit
  change Code.wp _ _ _ ⟨#[f 0, f 1, f 2, f 3, f 4, f 5, f 6, f 7, f 8, f 9, f 10, f 11, f 12, f 13, f 14, f 15, f 16, f 17, f 18, f 19, f 20, f 21, f 22, f 23, f 24, f 25, f 26, f 27, f 28], []⟩ _
  simp only at h4
  simp only [h4]
  clear h4
  change Code.wp _ (Code.seq (hd (sq 2 body30)) (Code.seq (hd (sq 3 body30)) (sq 4 body30))) _ _ _
  generalize sq 4 body30 = REST at hK ⊢
  conv => arg 2; arg 1; whnf
  conv => arg 2; arg 2; arg 1; whnf
  go_wp2
  exact hK.out _ ⟨rfl, rfl, rfl, rfl, trivial⟩
set_option maxRecDepth 100000 in
set_option maxHeartbeats 2000000 in
theorem rp_2 {Q : Exit → Act → World → Prop} (kd X : Int) (ng qu : Bool) (M LD : Nat) (g : Nat) (a : Act) (w : World) (r : Hid (w.heap[g]? = some (.cells #[.int .i64 kd, .bool ng, .int .u64 (M : Int), .int .i64 X, .bool qu, .int .u64 (LD : Int)] 27 (0, 0)))) (h : kd = 2) (hK : Hid (∀ a, At 29 [(4, .pointer (some ⟨g, 0, none⟩)), (5, .int .i64 X)] a → Code.wp Try.prog (sq 4 body30) Q a w)) (ha : At 29 [(4, .pointer (some ⟨g, 0, none⟩))] a) : Code.wp Try.prog (sq 2 body30) Q a w := by
  subst h
  obtain ⟨m0, m1, m2, m3, m4, m5⟩ := cells6 r.out
  obtain ⟨f, rfl, h4, -⟩ := ha.lit
  change Code.wp _ _ _ ⟨#[f 0, f 1, f 2, f 3, f 4, f 5, f 6, f 7, f 8, f 9, f 10, f 11, f 12, f 13, f 14, f 15, f 16, f 17, f 18, f 19, f 20, f 21, f 22, f 23, f 24, f 25, f 26, f 27, f 28], []⟩ _
  simp only at h4
  simp only [h4]
  clear h4
  change Code.wp _ (Code.seq (hd (sq 2 body30)) (Code.seq (hd (sq 3 body30)) (sq 4 body30))) _ _ _
  generalize sq 4 body30 = REST at hK ⊢
  conv => arg 2; arg 1; whnf
  conv => arg 2; arg 2; arg 1; whnf
  go_wp2
  exact hK.out _ ⟨rfl, rfl, rfl, rfl, trivial⟩
set_option maxRecDepth 100000 in
set_option maxHeartbeats 2000000 in
theorem rp_l {Q : Exit → Act → World → Prop} (kd X : Int) (ng qu : Bool) (M LD : Nat) (g l : Nat) (a : Act) (w : World) (r : Hid (w.heap[g]? = some (.cells #[.int .i64 kd, .bool ng, .int .u64 (M : Int), .int .i64 X, .bool qu, .int .u64 (LD : Int)] 27 (0, 0)))) (h1 : 2 ^ l ≤ M) (h2 : M < 2 ^ (l + 1)) (hl : (l : Int) ≤ 64) (hX : -20000 ≤ X ∧ X ≤ 20000) (hM : M < 18446744073709551616) (hK : Hid (∀ a, At 29 [(5, .int .i64 (X + l))] a → Code.wp Try.prog (sq 5 body30) Q a w)) (ha : At 29 [(4, .pointer (some ⟨g, 0, none⟩)), (5, .int .i64 X)] a) : Code.wp Try.prog (sq 4 body30) Q a w := by
  obtain ⟨m0, m1, m2, m3, m4, m5⟩ := cells6 r.out
  obtain ⟨f, rfl, h4, h5, -⟩ := ha.lit
  change Code.wp _ _ _ ⟨#[f 0, f 1, f 2, f 3, f 4, f 5, f 6, f 7, f 8, f 9, f 10, f 11, f 12, f 13, f 14, f 15, f 16, f 17, f 18, f 19, f 20, f 21, f 22, f 23, f 24, f 25, f 26, f 27, f 28], []⟩ _
  simp only at h4 h5
  simp only [h4, h5]
  clear h4 h5
  change Code.wp _ (Code.seq (hd (sq 4 body30)) (sq 5 body30)) _ _ _
  generalize sq 5 body30 = REST at hK ⊢
  conv => arg 2; arg 1; whnf
  obtain ⟨hXa, hXb⟩ := hX
  have hh := show Hid _ from And.intro h1 h2
  clear h1 h2
  go_wp2
  refine wp_loop_ghost_k (fun m a w' => ∃ i : Nat, i ≤ l ∧ m = l - i ∧ At 29 [(5, .int .i64 (X + i)), (6, .int .u64 ((M / 2 ^ i : Nat) : Int))] a ∧ w' = w) l ⟨0, Nat.zero_le _, rfl, by rw [Nat.pow_zero, Nat.div_one, show X + ((0 : Nat) : Int) = X by omega]; exact ⟨rfl, rfl, rfl, rfl, trivial⟩, rfl⟩ ?_
  obtain ⟨h1, h2⟩ := hh.out
  rintro m a w' ⟨i, hi, rfl, ha, rfl⟩ J0 K1 hJ hK1
  have hal : M / 2 ^ i < 18446744073709551616 := Nat.lt_of_le_of_lt (Nat.div_le_self _ _) hM
  by_cases c : i < l
  · have hnew : M / 2 ^ (i + 1) = M / 2 ^ i / 2 := by rw [Nat.pow_succ, Nat.div_div_eq_div_mul]
    have hdiv : ((M / 2 ^ i : Nat) : Int).tdiv 2 = ((M / 2 ^ (i + 1) : Nat) : Int) := by
      rw [Int.tdiv_eq_ediv_of_nonneg (Int.natCast_nonneg _), hnew, Int.natCast_ediv]; rfl
    have hwa := u64_small (M / 2 ^ (i + 1)) (by have := Nat.div_le_self M (2 ^ (i + 1)); omega)
    have hbig : 2 ≤ M / 2 ^ i := by
      refine (Nat.le_div_iff_mul_le (Nat.two_pow_pos _)).2 ?_
      have : 2 * 2 ^ i = 2 ^ (i + 1) := by rw [Nat.pow_succ]; omega
      rw [this]
      exact Nat.le_trans (Nat.pow_le_pow_right (by omega) (by omega)) h1
    have hgt : (1 : Int) < ((M / 2 ^ i : Nat) : Int) := by omega
    generalize ha' : M / 2 ^ (i + 1) = a' at *
    generalize M / 2 ^ i = b0 at *
    have ha' := show Hid _ from ha'
    have hyb : -50000 ≤ X + (i : Int) ∧ X + (i : Int) ≤ 50000 := by omega
    obtain ⟨hy1, hy2⟩ := hyb
    generalize hy : X + (i : Int) = y at *
    have hy := show Hid _ from hy
    have hc := show Hid _ from c
    have hJ := show Hid _ from hJ
    clear hnew hi c h1 h2 hh hal hM hbig hK m0 m1 m2 m3 m4 m5 hXa hXb hl
    obtain ⟨f, rfl, h5, h6, -⟩ := ha.lit
    change Code.wp _ _ _ ⟨#[f 0, f 1, f 2, f 3, f 4, f 5, f 6, f 7, f 8, f 9, f 10, f 11, f 12, f 13, f 14, f 15, f 16, f 17, f 18, f 19, f 20, f 21, f 22, f 23, f 24, f 25, f 26, f 27, f 28], []⟩ _
    simp only at h5 h6
    simp only [h5, h6]
    clear h5 h6
    go_wp2
    exact Handed.intro (l - (i + 1)) (by have := hc.out; omega) (hJ.out _ _ _ ⟨i + 1, hc.out, rfl, by rw [ha'.out, show X + ((i + 1 : Nat) : Int) = y + 1 by have := hy.out; omega]; exact ⟨rfl, rfl, rfl, rfl, trivial⟩, rfl⟩)
  · have hil : i = l := by omega
    subst hil
    have h1' : M / 2 ^ i = 1 := by
      have e : 2 ^ (i + 1) = 2 * 2 ^ i := by rw [Nat.pow_succ]; omega
      have q1 : 1 ≤ M / 2 ^ i := (Nat.le_div_iff_mul_le (Nat.two_pow_pos _)).2 (by omega)
      have q2 : M / 2 ^ i < 2 := (Nat.div_lt_iff_lt_mul (Nat.two_pow_pos _)).2 (by omega)
      omega
    rw [h1'] at ha
    clear c hi hJ hK1 h1 h2 hh hal hM m0 m1 m2 m3 m4 m5 hXa hXb hl h1'
    generalize X + (i : Int) = y at *
    obtain ⟨f, rfl, h5, h6, -⟩ := ha.lit
    change Code.wp _ _ _ ⟨#[f 0, f 1, f 2, f 3, f 4, f 5, f 6, f 7, f 8, f 9, f 10, f 11, f 12, f 13, f 14, f 15, f 16, f 17, f 18, f 19, f 20, f 21, f 22, f 23, f 24, f 25, f 26, f 27, f 28], []⟩ _
    simp only at h5 h6
    simp only [h5, h6]
    clear h5 h6
    go_wp2
    exact hK.out _ ⟨rfl, rfl, rfl, trivial⟩
set_option maxRecDepth 100000 in
set_option maxHeartbeats 2000000 in
theorem rp_e (y : Int) (a : Act) (w0 w : World) (B : Hid (Below w0.heap.size w0 w)) (ha : At 29 [(5, .int .i64 y)] a) : Code.wp Try.prog (sq 5 body30) (bodyPost Try.prog Try.f30 fun e w' => e = .returned (.tuple #[.int .i64 y, .bool true]) ∧ Below w0.heap.size w0 w') a w := by
  obtain ⟨f, rfl, h5, -⟩ := ha.lit
  change Code.wp _ _ _ ⟨#[f 0, f 1, f 2, f 3, f 4, f 5, f 6, f 7, f 8, f 9, f 10, f 11, f 12, f 13, f 14, f 15, f 16, f 17, f 18, f 19, f 20, f 21, f 22, f 23, f 24, f 25, f 26, f 27, f 28], []⟩ _
  simp only at h5
  simp only [h5]
  clear h5
  conv => arg 2; whnf
  go_wp2
  go_ret2
  exact ⟨rfl, B.out⟩
/-- The greatest power of two that is not above. -/
def powV (x : Pt) : Value := if x.kind = 1 ∨ x.kind = 2 then .tuple #[.int .i64 (x.exp + (Lib.bitLen x.mant : Nat) - 1), .bool true] else .tuple #[.int .i64 0, .bool false]
set_option maxHeartbeats 1000000 in
theorem power_any (b : Nat) (w : World) (hb : b < 18446744073709551616) : Calls Try.prog 29 #[.float .f64 b] w fun e w' => e = .returned (powV (pt 52 11 1023 b)) ∧ Below w.heap.size w w' := by
  have k46 := fun w => Parts_any b w hb
  obtain ⟨xm, xe1, xe2, xk, xp, xz, xq, xn, xz0, xs0⟩ := pt_range b
  unfold powV
  generalize pt 52 11 1023 b = x at *
  obtain ⟨kd, ng, M, X, qu, LD⟩ := x
  unfold Pt.val at k46
  dsimp only at *
  have k57 := fun w => finite_any kd X ng qu M LD w
  refine pw_a b kd X ng qu M LD w k46 fun a w1 g B1 r1 ha => ?_
  by_cases c : kd = 3 ∨ kd = 4
  · rw [if_neg (by omega)]
    have e : (decide (¬ kd = 3) && decide (¬ kd = 4)) = false := by rcases c with c | c <;> simp [c]
    rw [e] at k57
    exact pw_x kd X ng qu M LD g a w w1 B1 r1 k57 ha
  have e : (decide (¬ kd = 3) && decide (¬ kd = 4)) = true := by
    have h3 : ¬ kd = 3 := by omega
    have h4 : ¬ kd = 4 := by omega
    simp [h3, h4]
  rw [e] at k57
  by_cases c0 : kd = 0
  · rw [if_neg (by omega)]
    exact pw_z kd X ng qu M LD g a w w1 B1 r1 (xz c0) k57 ha
  · rw [if_pos (by omega)]
    have hM := xp (by omega)
    obtain ⟨l1, l2, l3⟩ := len_of (m := M) (by omega) (by omega)
    have k58 := fun w => (len_any M w (by omega)).mono fun e w' h => (show e = _ ∧ Below w.heap.size w w' from ⟨h.1, by rw [h.2]; exact Below.refl _ _⟩)
    exact pw_g kd X ng qu M LD g _ _ _ a w w1 B1 r1 (beq_eq_false_iff_ne.2 (by omega)) (i64_in _ (by omega) (by omega)) (i64_in _ (by omega) (by omega)) k57 k58 ha
set_option maxHeartbeats 1000000 in
theorem rpower_any (b : Nat) (w : World) (hb : b < 18446744073709551616) : Calls Try.prog 30 #[.int .u64 (b : Int)] w fun e w' => e = .returned (powV (pt 52 11 1023 b)) ∧ Below w.heap.size w w' := by
  have k11 := fun w => rparts_any lay64 b w hb
  obtain ⟨xm, xe1, xe2, xk, xp, xz, xq, xn, xz0, xs0⟩ := pt_range b
  unfold powV
  generalize pt 52 11 1023 b = x at *
  obtain ⟨kd, ng, M, X, qu, LD⟩ := x
  unfold Pt.val at k11
  dsimp only at *
  refine rp_a b kd X ng qu M LD w k11 fun a w1 g B1 r1 ha => ?_
  have go : kd = 1 ∨ kd = 2 → ∀ a, At 29 [(4, .pointer (some ⟨g, 0, none⟩)), (5, .int .i64 X)] a → Code.wp Try.prog (sq 4 body30) (bodyPost Try.prog Try.f30 fun e w' => e = .returned (if kd = 1 ∨ kd = 2 then .tuple #[.int .i64 (X + (Lib.bitLen M : Nat) - 1), .bool true] else .tuple #[.int .i64 0, .bool false]) ∧ Below w.heap.size w w') a w1 := fun hk a ha => by
    have hM := xp hk
    rw [if_pos hk]
    obtain ⟨l, l1, l2⟩ := log_of (m := M) (by omega)
    have hl : l < 53 := (Nat.pow_lt_pow_iff_right (by omega : 1 < 2)).1 (Nat.lt_of_le_of_lt l1 xm)
    have hlen := len_at l1 l2 (by omega)
    rw [hlen, show X + ((l + 1 : Nat) : Int) - 1 = X + l by omega]
    exact rp_l kd X ng qu M LD g l a w1 r1 l1 l2 (by omega) (by omega) (by omega) (fun a ha => rp_e _ a w w1 B1 ha) ha
  rcases xk with h | h | h | h | h
  · rw [if_neg (by omega)]
    exact rp_0 kd X ng qu M LD g a w w1 B1 r1 h ha
  · exact rp_1 kd X ng qu M LD g a w1 r1 h (go (.inl h)) ha
  · exact rp_2 kd X ng qu M LD g a w1 r1 h (go (.inr h)) ha
  · rw [if_neg (by omega)]
    exact rp_3 kd X ng qu M LD g a w w1 B1 r1 h ha
  · rw [if_neg (by omega)]
    exact rp_4 kd X ng qu M LD g a w w1 B1 r1 h ha
end Go.Proofs.Ytjcjecbffnadaab
