/-
  What the statement of Scale asks, walked. Condition: the numbers fit their types.
-/
import Derived.Test.YtjcjecbffnadaabSc
namespace Go.Proofs.Ytjcjecbffnadaab
open Go.RowKit
noncomputable def body3 : Code := Try.f3.body.getD .skip
set_option maxRecDepth 100000 in
set_option maxHeartbeats 2000000 in
theorem s3_a {Q : Ending → World → Prop} (b V : Nat) (n : Int) (kd X : Int) (ng qu : Bool) (M LD : Nat) (w : World)
    (k11 : ∀ w, Calls Try.prog 11 #[.int .u64 (b : Int), .agg #[.int .i64 52, .int .i64 2047, .int .i64 1023]] w fun e w' => e = .returned (.agg #[.int .i64 kd, .bool ng, .int .u64 (M : Int), .int .i64 X, .bool qu, .int .u64 (LD : Int)]) ∧ Below w.heap.size w w') (k13 : ∀ w, Calls Try.prog 13 #[.float .f64 b, .int .i64 n] w fun e w' => e = .returned (.float .f64 V) ∧ Below w.heap.size w w')
    (hK : Hid (∀ a w' g, Below w.heap.size w w' → w'.heap[g]? = some (.cells #[.int .i64 kd, .bool ng, .int .u64 (M : Int), .int .i64 X, .bool qu, .int .u64 (LD : Int)] 27 (0, 0)) → At 74 [(0, .int .u64 (b : Int)), (1, .int .i64 n), (6, .pointer (some ⟨g, 0, none⟩)), (7, .float .f64 V)] a → Code.wp Try.prog (sq 5 body3) (bodyPost Try.prog Try.f3 Q) a w')) :
    Calls Try.prog 3 #[.int .u64 (b : Int), .int .i64 n] w Q := by
  have k9 := awake_any
  have k12 := k16l
  unfold k16L at k12
  have x10 := ext10
  go_enter Try.func3, Try.ntmps3
  change Code.wp _ (Code.seq (hd (sq 0 body3)) (Code.seq (hd (sq 1 body3)) (Code.seq (hd (sq 2 body3)) (Code.seq (hd (sq 3 body3)) (Code.seq (hd (sq 4 body3)) (sq 5 body3)))))) _ _ _
  generalize sq 5 body3 = REST at hK ⊢
  conv => arg 2; arg 1; whnf
  conv => arg 2; arg 2; arg 1; whnf
  conv => arg 2; arg 2; arg 2; arg 1; whnf
  conv => arg 2; arg 2; arg 2; arg 2; arg 1; whnf
  conv => arg 2; arg 2; arg 2; arg 2; arg 2; arg 1; whnf
  go_wp2_with (go_at_call 9; refine (k9 _).mono ?_)
  intro e1 w1 hq
  first | (obtain ⟨rfl, b1⟩ : _ ∧ _ := hq) | (subst hq; intro b1)
  go_wp2_with (go_at_call 12; refine (k12 _).mono ?_)
  intro e2 w2 hq
  first | (obtain ⟨rfl, b2⟩ : _ ∧ _ := hq) | (subst hq; intro b2)
  go_wp2_with (go_at_call 11; refine (k11 _).mono ?_)
  intro e3 w3 hq
  first | (obtain ⟨rfl, b3⟩ : _ ∧ _ := hq) | (subst hq; intro b3)
  go_wp2_with (go_at_call 13; refine (k13 _).mono ?_)
  intro e4 w4 hq
  first | (obtain ⟨rfl, b4⟩ : _ ∧ _ := hq) | (subst hq; intro b4)
  have B0 : Below w.heap.size w w3 := (b1.trans (b2.mono b1.size)).trans (b3.mono (Nat.le_trans b1.size b2.size))
  have B1 : Hid (Below w.heap.size w w4) := (B0.alloc B0.size _).trans (b4.mono (by have := B0.size; simp; omega))
  have r1 : Hid (w4.heap[w3.heap.size]? = some (.cells #[.int .i64 kd, .bool ng, .int .u64 (M : Int), .int .i64 X, .bool qu, .int .u64 (LD : Int)] 27 (0, 0))) := (b4.block _ (by simp)).trans (heap_alloc_last _ _)
  clear b1 b2 b3 b4 B0
  go_wp2
  exact hK.out _ _ _ B1.out r1.out ⟨rfl, rfl, rfl, rfl, rfl, rfl, trivial⟩
set_option maxRecDepth 100000 in
set_option maxHeartbeats 2000000 in
theorem s3_4 (b g V : Nat) (n : Int) (kd X : Int) (ng qu : Bool) (M LD : Nat) (a : Act) (w : World) (w0 : World) (B1 : Hid (Below w0.heap.size w0 w)) (r : Hid (w.heap[g]? = some (.cells #[.int .i64 kd, .bool ng, .int .u64 (M : Int), .int .i64 X, .bool qu, .int .u64 (LD : Int)] 27 (0, 0)))) (h4 : kd = 4) (hV : (FloatKind.f64.format.order V V != some .eq) = true) (ha : At 74 [(0, .int .u64 (b : Int)), (1, .int .i64 n), (6, .pointer (some ⟨g, 0, none⟩)), (7, .float .f64 V)] a) : Code.wp Try.prog (sq 5 body3) (bodyPost Try.prog Try.f3 fun r w' => r = .returned (.bool true) ∧ Below w0.heap.size w0 w') a w := by
  subst h4
  obtain ⟨f, rfl, h0, h1, h6, h7, -⟩ := ha.lit
  change Code.wp _ _ _ ⟨#[f 0, f 1, f 2, f 3, f 4, f 5, f 6, f 7, f 8, f 9, f 10, f 11, f 12, f 13, f 14, f 15, f 16, f 17, f 18, f 19, f 20, f 21, f 22, f 23, f 24, f 25, f 26, f 27, f 28, f 29, f 30, f 31, f 32, f 33, f 34, f 35, f 36, f 37, f 38, f 39, f 40, f 41, f 42, f 43, f 44, f 45, f 46, f 47, f 48, f 49, f 50, f 51, f 52, f 53, f 54, f 55, f 56, f 57, f 58, f 59, f 60, f 61, f 62, f 63, f 64, f 65, f 66, f 67, f 68, f 69, f 70, f 71, f 72, f 73], []⟩ _
  simp only at h0 h1 h6 h7
  simp only [h0, h1, h6, h7]
  clear h0 h1 h6 h7
  conv => arg 2; whnf
  obtain ⟨m0, m1, m2, m3, m4, m5⟩ := cells6 r.out
  go_wp2
  go_ret
  exact ⟨rfl, B1.out⟩
set_option maxRecDepth 100000 in
set_option maxHeartbeats 2000000 in
theorem s3_3 (b g V : Nat) (n : Int) (kd X : Int) (ng qu : Bool) (M LD : Nat) (a : Act) (w : World) (w0 : World) (B : Hid (Below w0.heap.size w0 w)) (r : Hid (w.heap[g]? = some (.cells #[.int .i64 kd, .bool ng, .int .u64 (M : Int), .int .i64 X, .bool qu, .int .u64 (LD : Int)] 27 (0, 0)))) (h4 : kd = 3) (k14 : ∀ w, Calls Try.prog 14 #[.float .f64 V, .int .u64 (b : Int)] w fun e w' => e = .returned (.bool true) ∧ Below w.heap.size w w') (ha : At 74 [(0, .int .u64 (b : Int)), (1, .int .i64 n), (6, .pointer (some ⟨g, 0, none⟩)), (7, .float .f64 V)] a) : Code.wp Try.prog (sq 5 body3) (bodyPost Try.prog Try.f3 fun r w' => r = .returned (.bool true) ∧ Below w0.heap.size w0 w') a w := by
  subst h4
  obtain ⟨f, rfl, h0, h1, h6, h7, -⟩ := ha.lit
  change Code.wp _ _ _ ⟨#[f 0, f 1, f 2, f 3, f 4, f 5, f 6, f 7, f 8, f 9, f 10, f 11, f 12, f 13, f 14, f 15, f 16, f 17, f 18, f 19, f 20, f 21, f 22, f 23, f 24, f 25, f 26, f 27, f 28, f 29, f 30, f 31, f 32, f 33, f 34, f 35, f 36, f 37, f 38, f 39, f 40, f 41, f 42, f 43, f 44, f 45, f 46, f 47, f 48, f 49, f 50, f 51, f 52, f 53, f 54, f 55, f 56, f 57, f 58, f 59, f 60, f 61, f 62, f 63, f 64, f 65, f 66, f 67, f 68, f 69, f 70, f 71, f 72, f 73], []⟩ _
  simp only at h0 h1 h6 h7
  simp only [h0, h1, h6, h7]
  clear h0 h1 h6 h7
  conv => arg 2; whnf
  obtain ⟨m0, m1, m2, m3, m4, m5⟩ := cells6 r.out
  go_wp2_with (go_at_call 14; refine (k14 _).mono ?_)
  intro e1 w1 hq
  first | (obtain ⟨rfl, b1⟩ : _ ∧ _ := hq) | (subst hq; intro b1)
  have B1 : Hid (Below w0.heap.size w0 w1) := B.out.trans (b1.mono B.out.size)
  clear b1
  go_wp2
  go_ret
  exact ⟨rfl, B1.out⟩
set_option maxRecDepth 100000 in
set_option maxHeartbeats 2000000 in
theorem s3_0 (b g V : Nat) (n : Int) (kd X : Int) (ng qu : Bool) (M LD : Nat) (a : Act) (w : World) (w0 : World) (B : Hid (Below w0.heap.size w0 w)) (r : Hid (w.heap[g]? = some (.cells #[.int .i64 kd, .bool ng, .int .u64 (M : Int), .int .i64 X, .bool qu, .int .u64 (LD : Int)] 27 (0, 0)))) (h4 : kd = 0) (k14 : ∀ w, Calls Try.prog 14 #[.float .f64 V, .int .u64 (b : Int)] w fun e w' => e = .returned (.bool true) ∧ Below w.heap.size w w') (ha : At 74 [(0, .int .u64 (b : Int)), (1, .int .i64 n), (6, .pointer (some ⟨g, 0, none⟩)), (7, .float .f64 V)] a) : Code.wp Try.prog (sq 5 body3) (bodyPost Try.prog Try.f3 fun r w' => r = .returned (.bool true) ∧ Below w0.heap.size w0 w') a w := by
  subst h4
  obtain ⟨f, rfl, h0, h1, h6, h7, -⟩ := ha.lit
  change Code.wp _ _ _ ⟨#[f 0, f 1, f 2, f 3, f 4, f 5, f 6, f 7, f 8, f 9, f 10, f 11, f 12, f 13, f 14, f 15, f 16, f 17, f 18, f 19, f 20, f 21, f 22, f 23, f 24, f 25, f 26, f 27, f 28, f 29, f 30, f 31, f 32, f 33, f 34, f 35, f 36, f 37, f 38, f 39, f 40, f 41, f 42, f 43, f 44, f 45, f 46, f 47, f 48, f 49, f 50, f 51, f 52, f 53, f 54, f 55, f 56, f 57, f 58, f 59, f 60, f 61, f 62, f 63, f 64, f 65, f 66, f 67, f 68, f 69, f 70, f 71, f 72, f 73], []⟩ _
  simp only at h0 h1 h6 h7
  simp only [h0, h1, h6, h7]
  clear h0 h1 h6 h7
  conv => arg 2; whnf
  obtain ⟨m0, m1, m2, m3, m4, m5⟩ := cells6 r.out
  go_wp2_with (go_at_call 14; refine (k14 _).mono ?_)
  intro e1 w1 hq
  first | (obtain ⟨rfl, b1⟩ : _ ∧ _ := hq) | (subst hq; intro b1)
  have B1 : Hid (Below w0.heap.size w0 w1) := B.out.trans (b1.mono B.out.size)
  clear b1
  go_wp2
  go_ret
  exact ⟨rfl, B1.out⟩
set_option maxRecDepth 100000 in
set_option maxHeartbeats 2000000 in
theorem s3_1 {Q : Exit → Act → World → Prop} (b g V : Nat) (n : Int) (kd X : Int) (ng qu : Bool) (M LD : Nat) (a : Act) (w : World) (r : Hid (w.heap[g]? = some (.cells #[.int .i64 kd, .bool ng, .int .u64 (M : Int), .int .i64 X, .bool qu, .int .u64 (LD : Int)] 27 (0, 0)))) (h4 : kd = 1) (hK : Hid (∀ a w', Below w.heap.size w w' → At 74 [(0, .int .u64 (b : Int)), (1, .int .i64 n), (6, .pointer (some ⟨g, 0, none⟩)), (7, .float .f64 V)] a → Code.wp Try.prog (sq 6 body3) Q a w')) (ha : At 74 [(0, .int .u64 (b : Int)), (1, .int .i64 n), (6, .pointer (some ⟨g, 0, none⟩)), (7, .float .f64 V)] a) : Code.wp Try.prog (sq 5 body3) Q a w := by
  subst h4
  obtain ⟨f, rfl, h0, h1, h6, h7, -⟩ := ha.lit
  change Code.wp _ _ _ ⟨#[f 0, f 1, f 2, f 3, f 4, f 5, f 6, f 7, f 8, f 9, f 10, f 11, f 12, f 13, f 14, f 15, f 16, f 17, f 18, f 19, f 20, f 21, f 22, f 23, f 24, f 25, f 26, f 27, f 28, f 29, f 30, f 31, f 32, f 33, f 34, f 35, f 36, f 37, f 38, f 39, f 40, f 41, f 42, f 43, f 44, f 45, f 46, f 47, f 48, f 49, f 50, f 51, f 52, f 53, f 54, f 55, f 56, f 57, f 58, f 59, f 60, f 61, f 62, f 63, f 64, f 65, f 66, f 67, f 68, f 69, f 70, f 71, f 72, f 73], []⟩ _
  simp only at h0 h1 h6 h7
  simp only [h0, h1, h6, h7]
  clear h0 h1 h6 h7
  change Code.wp _ (Code.seq (hd (sq 5 body3)) (sq 6 body3)) _ _ _
  generalize sq 6 body3 = REST at hK ⊢
  conv => arg 2; arg 1; whnf
  obtain ⟨m0, m1, m2, m3, m4, m5⟩ := cells6 r.out
  go_wp2
  exact hK.out _ _ (Below.refl _ _) ⟨rfl, rfl, rfl, rfl, rfl, rfl, trivial⟩
set_option maxRecDepth 100000 in
set_option maxHeartbeats 2000000 in
theorem s3_2 {Q : Exit → Act → World → Prop} (b g V : Nat) (n : Int) (kd X : Int) (ng qu : Bool) (M LD : Nat) (a : Act) (w : World) (r : Hid (w.heap[g]? = some (.cells #[.int .i64 kd, .bool ng, .int .u64 (M : Int), .int .i64 X, .bool qu, .int .u64 (LD : Int)] 27 (0, 0)))) (h4 : kd = 2) (hK : Hid (∀ a w', Below w.heap.size w w' → At 74 [(0, .int .u64 (b : Int)), (1, .int .i64 n), (6, .pointer (some ⟨g, 0, none⟩)), (7, .float .f64 V)] a → Code.wp Try.prog (sq 6 body3) Q a w')) (ha : At 74 [(0, .int .u64 (b : Int)), (1, .int .i64 n), (6, .pointer (some ⟨g, 0, none⟩)), (7, .float .f64 V)] a) : Code.wp Try.prog (sq 5 body3) Q a w := by
  subst h4
  obtain ⟨f, rfl, h0, h1, h6, h7, -⟩ := ha.lit
  change Code.wp _ _ _ ⟨#[f 0, f 1, f 2, f 3, f 4, f 5, f 6, f 7, f 8, f 9, f 10, f 11, f 12, f 13, f 14, f 15, f 16, f 17, f 18, f 19, f 20, f 21, f 22, f 23, f 24, f 25, f 26, f 27, f 28, f 29, f 30, f 31, f 32, f 33, f 34, f 35, f 36, f 37, f 38, f 39, f 40, f 41, f 42, f 43, f 44, f 45, f 46, f 47, f 48, f 49, f 50, f 51, f 52, f 53, f 54, f 55, f 56, f 57, f 58, f 59, f 60, f 61, f 62, f 63, f 64, f 65, f 66, f 67, f 68, f 69, f 70, f 71, f 72, f 73], []⟩ _
  simp only at h0 h1 h6 h7
  simp only [h0, h1, h6, h7]
  clear h0 h1 h6 h7
  change Code.wp _ (Code.seq (hd (sq 5 body3)) (sq 6 body3)) _ _ _
  generalize sq 6 body3 = REST at hK ⊢
  conv => arg 2; arg 1; whnf
  obtain ⟨m0, m1, m2, m3, m4, m5⟩ := cells6 r.out
  go_wp2
  exact hK.out _ _ (Below.refl _ _) ⟨rfl, rfl, rfl, rfl, rfl, rfl, trivial⟩
set_option maxRecDepth 100000 in
set_option maxHeartbeats 2000000 in
theorem s3_b {Q : Exit → Act → World → Prop} (b g V : Nat) (n : Int) (kd X : Int) (ng qu : Bool) (M LD : Nat) (a : Act) (w : World) (by1 Y : Int) (r : Hid (w.heap[g]? = some (.cells #[.int .i64 kd, .bool ng, .int .u64 (M : Int), .int .i64 X, .bool qu, .int .u64 (LD : Int)] 27 (0, 0)))) (hb1 : min (max n (-6000)) 6000 = by1) (hY : IntKind.i64.wrap (X + by1) = Y) (k12 : ∀ w, Calls Try.prog 12 #[] w fun e w' => e = .returned (.agg #[.int .i64 52, .int .i64 2047, .int .i64 1023]) ∧ Below w.heap.size w w')
    (k15 : ∀ w, Calls Try.prog 15 #[.bool ng, .int .u64 (M : Int), .int .i64 Y, .bool false, .agg #[.int .i64 52, .int .i64 2047, .int .i64 1023]] w fun e w' => e = .returned (.int .u64 (V : Int)) ∧ Below w.heap.size w w') (k14 : ∀ w, Calls Try.prog 14 #[.float .f64 V, .int .u64 (V : Int)] w fun e w' => e = .returned (.bool true) ∧ Below w.heap.size w w') (hK : Hid (∀ a w', Below w.heap.size w w' → At 74 [(0, .int .u64 (b : Int)), (1, .int .i64 n), (6, .pointer (some ⟨g, 0, none⟩)), (7, .float .f64 V), (8, .int .i64 by1)] a → Code.wp Try.prog (sq 8 body3) Q a w')) (ha : At 74 [(0, .int .u64 (b : Int)), (1, .int .i64 n), (6, .pointer (some ⟨g, 0, none⟩)), (7, .float .f64 V)] a) : Code.wp Try.prog (sq 6 body3) Q a w := by
  obtain ⟨f, rfl, h0, h1, h6, h7, -⟩ := ha.lit
  change Code.wp _ _ _ ⟨#[f 0, f 1, f 2, f 3, f 4, f 5, f 6, f 7, f 8, f 9, f 10, f 11, f 12, f 13, f 14, f 15, f 16, f 17, f 18, f 19, f 20, f 21, f 22, f 23, f 24, f 25, f 26, f 27, f 28, f 29, f 30, f 31, f 32, f 33, f 34, f 35, f 36, f 37, f 38, f 39, f 40, f 41, f 42, f 43, f 44, f 45, f 46, f 47, f 48, f 49, f 50, f 51, f 52, f 53, f 54, f 55, f 56, f 57, f 58, f 59, f 60, f 61, f 62, f 63, f 64, f 65, f 66, f 67, f 68, f 69, f 70, f 71, f 72, f 73], []⟩ _
  simp only at h0 h1 h6 h7
  simp only [h0, h1, h6, h7]
  clear h0 h1 h6 h7
  change Code.wp _ (Code.seq (hd (sq 6 body3)) (Code.seq (hd (sq 7 body3)) (sq 8 body3))) _ _ _
  generalize sq 8 body3 = REST at hK ⊢
  conv => arg 2; arg 1; whnf
  conv => arg 2; arg 2; arg 1; whnf
  go_wp2
  refine wp_region_vals (a1 := ?a1r13n1) (grown _) [.float .f64 V, .pointer (some ⟨g, 1, none⟩), .bool ng, .pointer (some ⟨g, 2, none⟩), .int .u64 (M : Int), .pointer (some ⟨g, 3, none⟩), .int .i64 X, .int .i64 by1, .int .i64 Y, .agg #[.int .i64 52, .int .i64 2047, .int .i64 1023], .int .u64 (V : Int), .bool true, .bool false] 74 rfl (by kernel_rfl) (by kernel_rfl) (grown_start _) ⟨?o0r13n1, ?o1r13n1, ?o2r13n1, ?o3r13n1, ?o4r13n1, ?o5r13n1, ?o6r13n1, ?o7r13n1, ?o8r13n1, ?o9r13n1, ?o10r13n1, ?o11r13n1, ?o12r13n1, trivial⟩ ?har13n1 ?hdoner13n1
  case har13n1 => simp [putAll, Act.put]; exact rfl
  case o0r13n1 => exact ValOp.pure (grown_steady _ 0) [(7, .float .f64 V)] rfl (fun _ _ h2 => ⟨(h2 7 (by kernel_rfl)).trans rfl, trivial⟩) (by kernel_rfl) (fun _ _ _ _ _ => by kernel_rfl)
  case o1r13n1 => exact ValOp.pure (grown_steady _ 1) [(6, .pointer (some ⟨g, 0, none⟩))] rfl (fun _ _ h2 => ⟨(h2 6 (by kernel_rfl)).trans rfl, trivial⟩) (by kernel_rfl) (fun _ _ _ _ _ => by kernel_rfl)
  case o2r13n1 => exact ValOp.pure (grown_steady _ 2) [(37, .pointer (some ⟨g, 1, none⟩))] rfl (fun _ h1 _ => ⟨h1 1 37 (by kernel_rfl), trivial⟩) (by kernel_rfl) (fun _ _ _ hg _ => run_read rfl rfl (run_cell (below_at r.out hg) rfl (Try.isAgg4 _)))
  case o3r13n1 => exact ValOp.pure (grown_steady _ 3) [(6, .pointer (some ⟨g, 0, none⟩))] rfl (fun _ _ h2 => ⟨(h2 6 (by kernel_rfl)).trans rfl, trivial⟩) (by kernel_rfl) (fun _ _ _ _ _ => by kernel_rfl)
  case o4r13n1 => exact ValOp.pure (grown_steady _ 4) [(39, .pointer (some ⟨g, 2, none⟩))] rfl (fun _ h1 _ => ⟨h1 3 39 (by kernel_rfl), trivial⟩) (by kernel_rfl) (fun _ _ _ hg _ => run_read rfl rfl (run_cell (below_at r.out hg) rfl (Try.isAgg22 _)))
  case o5r13n1 => exact ValOp.pure (grown_steady _ 5) [(6, .pointer (some ⟨g, 0, none⟩))] rfl (fun _ _ h2 => ⟨(h2 6 (by kernel_rfl)).trans rfl, trivial⟩) (by kernel_rfl) (fun _ _ _ _ _ => by kernel_rfl)
  case o6r13n1 => exact ValOp.pure (grown_steady _ 6) [(41, .pointer (some ⟨g, 3, none⟩))] rfl (fun _ h1 _ => ⟨h1 5 41 (by kernel_rfl), trivial⟩) (by kernel_rfl) (fun _ _ _ hg _ => run_read rfl rfl (run_cell (below_at r.out hg) rfl (Try.isAgg3 _)))
  case o7r13n1 => exact ValOp.pure (grown_steady _ 7) [(8, .int .i64 by1)] rfl (fun _ _ h2 => ⟨(h2 8 (by kernel_rfl)).trans rfl, trivial⟩) (by kernel_rfl) (fun _ _ _ _ _ => by kernel_rfl)
  case o8r13n1 => exact ValOp.pure (grown_steady _ 8) [(42, .int .i64 X), (43, .int .i64 by1)] rfl (fun _ h1 _ => ⟨h1 6 42 (by kernel_rfl), h1 7 43 (by kernel_rfl), trivial⟩) (by kernel_rfl) (fun _ _ _ _ _ => run_bin (a := .int .i64 X) (b := .int .i64 by1) rfl rfl rfl (by kernel_rfl) (by simp [go_sem, hY]))
  case o9r13n1 => exact ValOp.call (grown_steady _ 9) [] rfl (fun _ _ _ => trivial) (by kernel_rfl) 12 #[] (fun _ => by kernel_rfl) (fun _ w _ => k12 w)
  case o10r13n1 => exact ValOp.call (grown_steady _ 10) [(38, .bool ng), (40, .int .u64 (M : Int)), (44, .int .i64 Y), (45, .agg #[.int .i64 52, .int .i64 2047, .int .i64 1023])] rfl (fun _ h1 _ => ⟨h1 2 38 (by kernel_rfl), h1 4 40 (by kernel_rfl), h1 8 44 (by kernel_rfl), h1 9 45 (by kernel_rfl), trivial⟩) (by kernel_rfl) 15 #[.bool ng, .int .u64 (M : Int), .int .i64 Y, .bool false, .agg #[.int .i64 52, .int .i64 2047, .int .i64 1023]] (fun _ => by kernel_rfl) (fun _ w _ => k15 w)
  case o11r13n1 => exact ValOp.call (grown_steady _ 11) [(36, .float .f64 V), (46, .int .u64 (V : Int))] rfl (fun _ h1 _ => ⟨h1 0 36 (by kernel_rfl), h1 10 46 (by kernel_rfl), trivial⟩) (by kernel_rfl) 14 #[.float .f64 V, .int .u64 (V : Int)] (fun _ => by kernel_rfl) (fun _ w _ => k14 w)
  case o12r13n1 => exact ValOp.pure (grown_steady _ 12) [(47, .bool true)] rfl (fun _ h1 _ => ⟨h1 11 47 (by kernel_rfl), trivial⟩) (by kernel_rfl) (fun _ _ _ _ _ => by kernel_rfl)
  intro w1 s1 _ bb
  have B1 : Hid (Below w.heap.size w w1) := bb
  clear bb
  go_wp2
  exact hK.out _ _ B1.out ⟨rfl, rfl, rfl, rfl, rfl, rfl, rfl, trivial⟩
set_option maxRecDepth 100000 in
set_option maxHeartbeats 2000000 in
theorem s3_c {Q : Exit → Act → World → Prop} (b g V : Nat) (n by1 : Int) (kd2 X2 : Int) (ng2 qu2 : Bool) (M2 LD2 : Nat) (a : Act) (w : World) (k12 : ∀ w, Calls Try.prog 12 #[] w fun e w' => e = .returned (.agg #[.int .i64 52, .int .i64 2047, .int .i64 1023]) ∧ Below w.heap.size w w')
    (k11 : ∀ w, Calls Try.prog 11 #[.int .u64 (V : Int), .agg #[.int .i64 52, .int .i64 2047, .int .i64 1023]] w fun e w' => e = .returned (.agg #[.int .i64 kd2, .bool ng2, .int .u64 (M2 : Int), .int .i64 X2, .bool qu2, .int .u64 (LD2 : Int)]) ∧ Below w.heap.size w w')
    (hK : Hid (∀ a w' g2, Below w.heap.size w w' → w'.heap[g2]? = some (.cells #[.int .i64 kd2, .bool ng2, .int .u64 (M2 : Int), .int .i64 X2, .bool qu2, .int .u64 (LD2 : Int)] 27 (0, 0)) → At 74 [(0, .int .u64 (b : Int)), (1, .int .i64 n), (6, .pointer (some ⟨g, 0, none⟩)), (7, .float .f64 V), (8, .int .i64 by1), (9, .pointer (some ⟨g2, 0, none⟩))] a → Code.wp Try.prog (sq 9 body3) Q a w')) (ha : At 74 [(0, .int .u64 (b : Int)), (1, .int .i64 n), (6, .pointer (some ⟨g, 0, none⟩)), (7, .float .f64 V), (8, .int .i64 by1)] a) : Code.wp Try.prog (sq 8 body3) Q a w := by
  have x20 := ext20
  obtain ⟨f, rfl, h0, h1, h6, h7, h8, -⟩ := ha.lit
  change Code.wp _ _ _ ⟨#[f 0, f 1, f 2, f 3, f 4, f 5, f 6, f 7, f 8, f 9, f 10, f 11, f 12, f 13, f 14, f 15, f 16, f 17, f 18, f 19, f 20, f 21, f 22, f 23, f 24, f 25, f 26, f 27, f 28, f 29, f 30, f 31, f 32, f 33, f 34, f 35, f 36, f 37, f 38, f 39, f 40, f 41, f 42, f 43, f 44, f 45, f 46, f 47, f 48, f 49, f 50, f 51, f 52, f 53, f 54, f 55, f 56, f 57, f 58, f 59, f 60, f 61, f 62, f 63, f 64, f 65, f 66, f 67, f 68, f 69, f 70, f 71, f 72, f 73], []⟩ _
  simp only at h0 h1 h6 h7 h8
  simp only [h0, h1, h6, h7, h8]
  clear h0 h1 h6 h7 h8
  change Code.wp _ (Code.seq (hd (sq 8 body3)) (sq 9 body3)) _ _ _
  generalize sq 9 body3 = REST at hK ⊢
  conv => arg 2; arg 1; whnf
  go_wp2_with (go_at_call 12; refine (k12 _).mono ?_)
  intro e1 w1 hq
  first | (obtain ⟨rfl, b1⟩ : _ ∧ _ := hq) | (subst hq; intro b1)
  go_wp2_with (go_at_call 11; refine (k11 _).mono ?_)
  intro e2 w2 hq
  first | (obtain ⟨rfl, b2⟩ : _ ∧ _ := hq) | (subst hq; intro b2)
  have B0 : Below w.heap.size w w2 := b1.trans (b2.mono b1.size)
  have B1 : Hid (Below w.heap.size w (w2.alloc (.cells #[.int .i64 kd2, .bool ng2, .int .u64 (M2 : Int), .int .i64 X2, .bool qu2, .int .u64 (LD2 : Int)] 27))) := B0.alloc B0.size _
  have r1 : Hid ((w2.alloc (.cells #[.int .i64 kd2, .bool ng2, .int .u64 (M2 : Int), .int .i64 X2, .bool qu2, .int .u64 (LD2 : Int)] 27)).heap[w2.heap.size]? = some (.cells #[.int .i64 kd2, .bool ng2, .int .u64 (M2 : Int), .int .i64 X2, .bool qu2, .int .u64 (LD2 : Int)] 27 (0, 0))) := heap_alloc_last _ _
  clear b1 b2 B0
  go_wp2
  exact hK.out _ _ _ B1.out r1.out ⟨rfl, rfl, rfl, rfl, rfl, rfl, rfl, rfl, trivial⟩
set_option maxRecDepth 100000 in
set_option maxHeartbeats 2000000 in
theorem s3_d1 (b g g2 V : Nat) (n by1 : Int) (kd X : Int) (ng qu : Bool) (M LD : Nat) (kd2 X2 : Int) (ng2 qu2 : Bool) (M2 LD2 : Nat) (a : Act) (w0 w : World) (B1 : Hid (Below w0.heap.size w0 w)) (r : Hid (w.heap[g]? = some (.cells #[.int .i64 kd, .bool ng, .int .u64 (M : Int), .int .i64 X, .bool qu, .int .u64 (LD : Int)] 27 (0, 0)))) (r2 : Hid (w.heap[g2]? = some (.cells #[.int .i64 kd2, .bool ng2, .int .u64 (M2 : Int), .int .i64 X2, .bool qu2, .int .u64 (LD2 : Int)] 27 (0, 0)))) (h : (kd != 2) = true) (ha : At 74 [(0, .int .u64 (b : Int)), (1, .int .i64 n), (6, .pointer (some ⟨g, 0, none⟩)), (7, .float .f64 V), (8, .int .i64 by1), (9, .pointer (some ⟨g2, 0, none⟩))] a) : Code.wp Try.prog (sq 9 body3) (bodyPost Try.prog Try.f3 fun r w' => r = .returned (.bool true) ∧ Below w0.heap.size w0 w') a w := by
  obtain ⟨f, rfl, h0, h1, h6, h7, h8, h9, -⟩ := ha.lit
  change Code.wp _ _ _ ⟨#[f 0, f 1, f 2, f 3, f 4, f 5, f 6, f 7, f 8, f 9, f 10, f 11, f 12, f 13, f 14, f 15, f 16, f 17, f 18, f 19, f 20, f 21, f 22, f 23, f 24, f 25, f 26, f 27, f 28, f 29, f 30, f 31, f 32, f 33, f 34, f 35, f 36, f 37, f 38, f 39, f 40, f 41, f 42, f 43, f 44, f 45, f 46, f 47, f 48, f 49, f 50, f 51, f 52, f 53, f 54, f 55, f 56, f 57, f 58, f 59, f 60, f 61, f 62, f 63, f 64, f 65, f 66, f 67, f 68, f 69, f 70, f 71, f 72, f 73], []⟩ _
  simp only at h0 h1 h6 h7 h8 h9
  simp only [h0, h1, h6, h7, h8, h9]
  clear h0 h1 h6 h7 h8 h9
  conv => arg 2; whnf
  obtain ⟨m0, m1, m2, m3, m4, m5⟩ := cells6 r.out
  obtain ⟨n0, n1, n2, n3, n4, n5⟩ := cells6 r2.out
  go_wp2
  go_ret
  exact ⟨rfl, B1.out⟩
set_option maxRecDepth 100000 in
set_option maxHeartbeats 2000000 in
theorem s3_d2 (b g g2 V : Nat) (n by1 : Int) (kd X : Int) (ng qu : Bool) (M LD : Nat) (kd2 X2 : Int) (ng2 qu2 : Bool) (M2 LD2 : Nat) (a : Act) (w0 w : World) (B1 : Hid (Below w0.heap.size w0 w)) (r : Hid (w.heap[g]? = some (.cells #[.int .i64 kd, .bool ng, .int .u64 (M : Int), .int .i64 X, .bool qu, .int .u64 (LD : Int)] 27 (0, 0)))) (r2 : Hid (w.heap[g2]? = some (.cells #[.int .i64 kd2, .bool ng2, .int .u64 (M2 : Int), .int .i64 X2, .bool qu2, .int .u64 (LD2 : Int)] 27 (0, 0)))) (h0 : kd = 2) (h : (kd2 != 2) = true) (ha : At 74 [(0, .int .u64 (b : Int)), (1, .int .i64 n), (6, .pointer (some ⟨g, 0, none⟩)), (7, .float .f64 V), (8, .int .i64 by1), (9, .pointer (some ⟨g2, 0, none⟩))] a) : Code.wp Try.prog (sq 9 body3) (bodyPost Try.prog Try.f3 fun r w' => r = .returned (.bool true) ∧ Below w0.heap.size w0 w') a w := by
  subst h0
  obtain ⟨f, rfl, h0, h1, h6, h7, h8, h9, -⟩ := ha.lit
  change Code.wp _ _ _ ⟨#[f 0, f 1, f 2, f 3, f 4, f 5, f 6, f 7, f 8, f 9, f 10, f 11, f 12, f 13, f 14, f 15, f 16, f 17, f 18, f 19, f 20, f 21, f 22, f 23, f 24, f 25, f 26, f 27, f 28, f 29, f 30, f 31, f 32, f 33, f 34, f 35, f 36, f 37, f 38, f 39, f 40, f 41, f 42, f 43, f 44, f 45, f 46, f 47, f 48, f 49, f 50, f 51, f 52, f 53, f 54, f 55, f 56, f 57, f 58, f 59, f 60, f 61, f 62, f 63, f 64, f 65, f 66, f 67, f 68, f 69, f 70, f 71, f 72, f 73], []⟩ _
  simp only at h0 h1 h6 h7 h8 h9
  simp only [h0, h1, h6, h7, h8, h9]
  clear h0 h1 h6 h7 h8 h9
  conv => arg 2; whnf
  obtain ⟨m0, m1, m2, m3, m4, m5⟩ := cells6 r.out
  obtain ⟨n0, n1, n2, n3, n4, n5⟩ := cells6 r2.out
  go_wp2
  go_ret
  exact ⟨rfl, B1.out⟩
set_option maxRecDepth 100000 in
set_option maxHeartbeats 2000000 in
theorem s3_d3 (b g g2 V : Nat) (n by1 : Int) (kd X : Int) (ng qu : Bool) (M LD : Nat) (kd2 X2 : Int) (ng2 qu2 : Bool) (M2 LD2 : Nat) (a : Act) (w0 w : World) (B1 : Hid (Below w0.heap.size w0 w)) (r : Hid (w.heap[g]? = some (.cells #[.int .i64 kd, .bool ng, .int .u64 (M : Int), .int .i64 X, .bool qu, .int .u64 (LD : Int)] 27 (0, 0)))) (r2 : Hid (w.heap[g2]? = some (.cells #[.int .i64 kd2, .bool ng2, .int .u64 (M2 : Int), .int .i64 X2, .bool qu2, .int .u64 (LD2 : Int)] 27 (0, 0)))) (h0 : kd = 2) (h1 : kd2 = 2) (h : ((M2 : Int) != (M : Int)) = true) (ha : At 74 [(0, .int .u64 (b : Int)), (1, .int .i64 n), (6, .pointer (some ⟨g, 0, none⟩)), (7, .float .f64 V), (8, .int .i64 by1), (9, .pointer (some ⟨g2, 0, none⟩))] a) : Code.wp Try.prog (sq 9 body3) (bodyPost Try.prog Try.f3 fun r w' => r = .returned (.bool true) ∧ Below w0.heap.size w0 w') a w := by
  subst h0
  subst h1
  obtain ⟨f, rfl, h0, h1, h6, h7, h8, h9, -⟩ := ha.lit
  change Code.wp _ _ _ ⟨#[f 0, f 1, f 2, f 3, f 4, f 5, f 6, f 7, f 8, f 9, f 10, f 11, f 12, f 13, f 14, f 15, f 16, f 17, f 18, f 19, f 20, f 21, f 22, f 23, f 24, f 25, f 26, f 27, f 28, f 29, f 30, f 31, f 32, f 33, f 34, f 35, f 36, f 37, f 38, f 39, f 40, f 41, f 42, f 43, f 44, f 45, f 46, f 47, f 48, f 49, f 50, f 51, f 52, f 53, f 54, f 55, f 56, f 57, f 58, f 59, f 60, f 61, f 62, f 63, f 64, f 65, f 66, f 67, f 68, f 69, f 70, f 71, f 72, f 73], []⟩ _
  simp only at h0 h1 h6 h7 h8 h9
  simp only [h0, h1, h6, h7, h8, h9]
  clear h0 h1 h6 h7 h8 h9
  conv => arg 2; whnf
  obtain ⟨m0, m1, m2, m3, m4, m5⟩ := cells6 r.out
  obtain ⟨n0, n1, n2, n3, n4, n5⟩ := cells6 r2.out
  go_wp2
  go_ret
  exact ⟨rfl, B1.out⟩
set_option maxRecDepth 100000 in
set_option maxHeartbeats 2000000 in
theorem s3_d4 (b g g2 V : Nat) (n by1 : Int) (kd X : Int) (ng qu : Bool) (M LD : Nat) (kd2 X2 : Int) (ng2 qu2 : Bool) (M2 LD2 : Nat) (a : Act) (w0 w : World) (B1 : Hid (Below w0.heap.size w0 w)) (r : Hid (w.heap[g]? = some (.cells #[.int .i64 kd, .bool ng, .int .u64 (M : Int), .int .i64 X, .bool qu, .int .u64 (LD : Int)] 27 (0, 0)))) (r2 : Hid (w.heap[g2]? = some (.cells #[.int .i64 kd2, .bool ng2, .int .u64 (M2 : Int), .int .i64 X2, .bool qu2, .int .u64 (LD2 : Int)] 27 (0, 0)))) (h0 : kd = 2) (h1 : kd2 = 2) (h : M2 = M) (nb : Int) (hn : IntKind.i64.wrap (-by1) = nb) (k13 : ∀ w, Calls Try.prog 13 #[.float .f64 V, .int .i64 nb] w fun e w' => e = .returned (.float .f64 b) ∧ Below w.heap.size w w') (k14 : ∀ w, Calls Try.prog 14 #[.float .f64 b, .int .u64 (b : Int)] w fun e w' => e = .returned (.bool true) ∧ Below w.heap.size w w') (ha : At 74 [(0, .int .u64 (b : Int)), (1, .int .i64 n), (6, .pointer (some ⟨g, 0, none⟩)), (7, .float .f64 V), (8, .int .i64 by1), (9, .pointer (some ⟨g2, 0, none⟩))] a) : Code.wp Try.prog (sq 9 body3) (bodyPost Try.prog Try.f3 fun r w' => r = .returned (.bool true) ∧ Below w0.heap.size w0 w') a w := by
  subst h0
  subst h1
  subst h
  obtain ⟨f, rfl, h0, h1, h6, h7, h8, h9, -⟩ := ha.lit
  change Code.wp _ _ _ ⟨#[f 0, f 1, f 2, f 3, f 4, f 5, f 6, f 7, f 8, f 9, f 10, f 11, f 12, f 13, f 14, f 15, f 16, f 17, f 18, f 19, f 20, f 21, f 22, f 23, f 24, f 25, f 26, f 27, f 28, f 29, f 30, f 31, f 32, f 33, f 34, f 35, f 36, f 37, f 38, f 39, f 40, f 41, f 42, f 43, f 44, f 45, f 46, f 47, f 48, f 49, f 50, f 51, f 52, f 53, f 54, f 55, f 56, f 57, f 58, f 59, f 60, f 61, f 62, f 63, f 64, f 65, f 66, f 67, f 68, f 69, f 70, f 71, f 72, f 73], []⟩ _
  simp only at h0 h1 h6 h7 h8 h9
  simp only [h0, h1, h6, h7, h8, h9]
  clear h0 h1 h6 h7 h8 h9
  conv => arg 2; whnf
  obtain ⟨m0, m1, m2, m3, m4, m5⟩ := cells6 r.out
  obtain ⟨n0, n1, n2, n3, n4, n5⟩ := cells6 r2.out
  go_wp2_with (go_at_call 13; refine (k13 _).mono ?_)
  intro e1 w1 hq
  first | (obtain ⟨rfl, b1⟩ : _ ∧ _ := hq) | (subst hq; intro b1)
  go_wp2_with (go_at_call 14; refine (k14 _).mono ?_)
  intro e2 w2 hq
  first | (obtain ⟨rfl, b2⟩ : _ ∧ _ := hq) | (subst hq; intro b2)
  have B2 : Hid (Below w0.heap.size w0 w2) := B1.out.trans ((b1.trans (b2.mono b1.size)).mono B1.out.size)
  clear b1 b2
  go_wp2
  go_ret
  exact ⟨rfl, B2.out⟩
end Go.Proofs.Ytjcjecbffnadaab
