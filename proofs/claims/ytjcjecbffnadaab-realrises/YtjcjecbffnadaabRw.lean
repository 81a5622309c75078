/-
  The contract of the document's Whole. Condition: the float's bits fit.
-/
import Derived.Test.YtjcjecbffnadaabRe
import Derived.Deep.LoopGhost
namespace Go.Proofs.Ytjcjecbffnadaab
open Go.RowKit
noncomputable def body18 : Code := Try.f18.body.getD .skip
set_option maxRecDepth 100000 in
set_option maxHeartbeats 2000000 in
theorem rw_a {Q : Ending → World → Prop} (b : Nat) (kd X : Int) (ng qu : Bool) (M LD : Nat) (w : World) (k11 : ∀ w, Calls Try.prog 11 #[.int .u64 (b : Int), .agg #[.int .i64 52, .int .i64 2047, .int .i64 1023]] w fun e w' => e = .returned (.agg #[.int .i64 kd, .bool ng, .int .u64 (M : Int), .int .i64 X, .bool qu, .int .u64 (LD : Int)]) ∧ Below w.heap.size w w')
    (hK : Hid (∀ a w' g, Below w.heap.size w w' → w'.heap[g]? = some (.cells #[.int .i64 kd, .bool ng, .int .u64 (M : Int), .int .i64 X, .bool qu, .int .u64 (LD : Int)] 27 (0, 0)) → At 67 [(4, .pointer (some ⟨g, 0, none⟩))] a → Code.wp Try.prog (sq 2 body18) (bodyPost Try.prog Try.f18 Q) a w')) :
    Calls Try.prog 18 #[.int .u64 (b : Int)] w Q := by
  have k12 := k16l
  unfold k16L at k12
  go_enter Try.func18, Try.ntmps18
  change Code.wp _ (Code.seq (hd (sq 0 body18)) (Code.seq (hd (sq 1 body18)) (sq 2 body18))) _ _ _
  generalize sq 2 body18 = REST at hK ⊢
  conv => arg 2; arg 1; whnf
  conv => arg 2; arg 2; arg 1; whnf
  go_wp2_with (go_at_call 12; refine (k12 _).mono ?_)
  intro e1 w1 hq
  first | (obtain ⟨rfl, b1⟩ : _ ∧ _ := hq) | (subst hq; intro b1)
  go_wp2_with (go_at_call 11; refine (k11 _).mono ?_)
  intro e2 w2 hq
  first | (obtain ⟨rfl, b2⟩ : _ ∧ _ := hq) | (subst hq; intro b2)
  have B0 : Below w.heap.size w w2 := b1.trans (b2.mono b1.size)
  have B1 : Hid (Below w.heap.size w (w2.alloc (.cells #[.int .i64 kd, .bool ng, .int .u64 (M : Int), .int .i64 X, .bool qu, .int .u64 (LD : Int)] 27))) := B0.alloc B0.size _
  have r1 : Hid ((w2.alloc (.cells #[.int .i64 kd, .bool ng, .int .u64 (M : Int), .int .i64 X, .bool qu, .int .u64 (LD : Int)] 27)).heap[w2.heap.size]? = some (.cells #[.int .i64 kd, .bool ng, .int .u64 (M : Int), .int .i64 X, .bool qu, .int .u64 (LD : Int)] 27 (0, 0))) := heap_alloc_last _ _
  clear b1 b2 B0
  go_wp2
  exact hK.out _ _ _ B1.out r1.out ⟨rfl, rfl, rfl, trivial⟩
set_option maxRecDepth 100000 in
set_option maxHeartbeats 2000000 in
theorem rw_0 (g : Nat) (kd X : Int) (ng qu : Bool) (M LD : Nat) (a : Act) (w : World) (w0 : World) (B : Hid (Below w0.heap.size w0 w)) (r : Hid (w.heap[g]? = some (.cells #[.int .i64 kd, .bool ng, .int .u64 (M : Int), .int .i64 X, .bool qu, .int .u64 (LD : Int)] 27 (0, 0)))) (h : kd = 0) (ha : At 67 [(4, .pointer (some ⟨g, 0, none⟩))] a) : Code.wp Try.prog (sq 2 body18) (bodyPost Try.prog Try.f18 fun r w' => r = .returned (.tuple #[.int .i64 0, .bool true]) ∧ Below w0.heap.size w0 w') a w := by
  subst h
  obtain ⟨f, rfl, h4, -⟩ := ha.lit
  change Code.wp _ _ _ ⟨#[f 0, f 1, f 2, f 3, f 4, f 5, f 6, f 7, f 8, f 9, f 10, f 11, f 12, f 13, f 14, f 15, f 16, f 17, f 18, f 19, f 20, f 21, f 22, f 23, f 24, f 25, f 26, f 27, f 28, f 29, f 30, f 31, f 32, f 33, f 34, f 35, f 36, f 37, f 38, f 39, f 40, f 41, f 42, f 43, f 44, f 45, f 46, f 47, f 48, f 49, f 50, f 51, f 52, f 53, f 54, f 55, f 56, f 57, f 58, f 59, f 60, f 61, f 62, f 63, f 64, f 65, f 66], []⟩ _
  simp only at h4
  simp only [h4]
  clear h4
  conv => arg 2; whnf
  obtain ⟨m0, m1, m2, m3, m4, m5⟩ := cells6 r.out
  go_wp2
  go_ret2
  exact ⟨rfl, B.out⟩
set_option maxRecDepth 100000 in
set_option maxHeartbeats 2000000 in
theorem rw_m (g : Nat) (kd X : Int) (ng qu : Bool) (M LD : Nat) (a : Act) (w : World) (w0 : World) (B : Hid (Below w0.heap.size w0 w)) (r : Hid (w.heap[g]? = some (.cells #[.int .i64 kd, .bool ng, .int .u64 (M : Int), .int .i64 X, .bool qu, .int .u64 (LD : Int)] 27 (0, 0)))) (h0 : (kd == 0) = false) (h1 : X = 11) (h2 : ng = true) (h3 : M = 4503599627370496) (ha : At 67 [(4, .pointer (some ⟨g, 0, none⟩))] a) : Code.wp Try.prog (sq 2 body18) (bodyPost Try.prog Try.f18 fun r w' => r = .returned (.tuple #[.int .i64 (-9223372036854775808), .bool true]) ∧ Below w0.heap.size w0 w') a w := by
  subst h1
  subst h2
  subst h3
  obtain ⟨f, rfl, h4, -⟩ := ha.lit
  change Code.wp _ _ _ ⟨#[f 0, f 1, f 2, f 3, f 4, f 5, f 6, f 7, f 8, f 9, f 10, f 11, f 12, f 13, f 14, f 15, f 16, f 17, f 18, f 19, f 20, f 21, f 22, f 23, f 24, f 25, f 26, f 27, f 28, f 29, f 30, f 31, f 32, f 33, f 34, f 35, f 36, f 37, f 38, f 39, f 40, f 41, f 42, f 43, f 44, f 45, f 46, f 47, f 48, f 49, f 50, f 51, f 52, f 53, f 54, f 55, f 56, f 57, f 58, f 59, f 60, f 61, f 62, f 63, f 64, f 65, f 66], []⟩ _
  simp only at h4
  simp only [h4]
  clear h4
  conv => arg 2; whnf
  obtain ⟨m0, m1, m2, m3, m4, m5⟩ := cells6 r.out
  go_wp2
  go_ret2
  exact ⟨rfl, B.out⟩
set_option maxRecDepth 100000 in
set_option maxHeartbeats 2000000 in
theorem rw_4 (g : Nat) (kd X : Int) (ng qu : Bool) (M LD : Nat) (a : Act) (w : World) (w0 : World) (B : Hid (Below w0.heap.size w0 w)) (r : Hid (w.heap[g]? = some (.cells #[.int .i64 kd, .bool ng, .int .u64 (M : Int), .int .i64 X, .bool qu, .int .u64 (LD : Int)] 27 (0, 0)))) (h : kd = 4) (hX : (X == 11) = false) (ha : At 67 [(4, .pointer (some ⟨g, 0, none⟩))] a) : Code.wp Try.prog (sq 2 body18) (bodyPost Try.prog Try.f18 fun r w' => r = .returned (.tuple #[.int .i64 0, .bool false]) ∧ Below w0.heap.size w0 w') a w := by
  subst h
  obtain ⟨f, rfl, h4, -⟩ := ha.lit
  change Code.wp _ _ _ ⟨#[f 0, f 1, f 2, f 3, f 4, f 5, f 6, f 7, f 8, f 9, f 10, f 11, f 12, f 13, f 14, f 15, f 16, f 17, f 18, f 19, f 20, f 21, f 22, f 23, f 24, f 25, f 26, f 27, f 28, f 29, f 30, f 31, f 32, f 33, f 34, f 35, f 36, f 37, f 38, f 39, f 40, f 41, f 42, f 43, f 44, f 45, f 46, f 47, f 48, f 49, f 50, f 51, f 52, f 53, f 54, f 55, f 56, f 57, f 58, f 59, f 60, f 61, f 62, f 63, f 64, f 65, f 66], []⟩ _
  simp only at h4
  simp only [h4]
  clear h4
  conv => arg 2; whnf
  obtain ⟨m0, m1, m2, m3, m4, m5⟩ := cells6 r.out
  go_wp2
  go_ret2
  exact ⟨rfl, B.out⟩
set_option maxRecDepth 100000 in
set_option maxHeartbeats 2000000 in
theorem rw_3 (g : Nat) (kd X : Int) (ng qu : Bool) (M LD : Nat) (a : Act) (w : World) (w0 : World) (B : Hid (Below w0.heap.size w0 w)) (r : Hid (w.heap[g]? = some (.cells #[.int .i64 kd, .bool ng, .int .u64 (M : Int), .int .i64 X, .bool qu, .int .u64 (LD : Int)] 27 (0, 0)))) (h : kd = 3) (hX : (X == 11) = false) (ha : At 67 [(4, .pointer (some ⟨g, 0, none⟩))] a) : Code.wp Try.prog (sq 2 body18) (bodyPost Try.prog Try.f18 fun r w' => r = .returned (.tuple #[.int .i64 0, .bool false]) ∧ Below w0.heap.size w0 w') a w := by
  subst h
  obtain ⟨f, rfl, h4, -⟩ := ha.lit
  change Code.wp _ _ _ ⟨#[f 0, f 1, f 2, f 3, f 4, f 5, f 6, f 7, f 8, f 9, f 10, f 11, f 12, f 13, f 14, f 15, f 16, f 17, f 18, f 19, f 20, f 21, f 22, f 23, f 24, f 25, f 26, f 27, f 28, f 29, f 30, f 31, f 32, f 33, f 34, f 35, f 36, f 37, f 38, f 39, f 40, f 41, f 42, f 43, f 44, f 45, f 46, f 47, f 48, f 49, f 50, f 51, f 52, f 53, f 54, f 55, f 56, f 57, f 58, f 59, f 60, f 61, f 62, f 63, f 64, f 65, f 66], []⟩ _
  simp only at h4
  simp only [h4]
  clear h4
  conv => arg 2; whnf
  obtain ⟨m0, m1, m2, m3, m4, m5⟩ := cells6 r.out
  go_wp2
  go_ret2
  exact ⟨rfl, B.out⟩
set_option maxRecDepth 100000 in
set_option maxHeartbeats 2000000 in
theorem rw_g1 (g : Nat) (kd X : Int) (ng qu : Bool) (M LD : Nat) (a : Act) (w : World) (w0 : World) (B : Hid (Below w0.heap.size w0 w)) (r : Hid (w.heap[g]? = some (.cells #[.int .i64 kd, .bool ng, .int .u64 (M : Int), .int .i64 X, .bool qu, .int .u64 (LD : Int)] 27 (0, 0)))) (h0 : (kd == 0) = false) (h4 : (kd == 4) = false) (h3 : (kd == 3) = false) (hX : (X == 11) = false) (h : 10 < X) (ha : At 67 [(4, .pointer (some ⟨g, 0, none⟩))] a) : Code.wp Try.prog (sq 2 body18) (bodyPost Try.prog Try.f18 fun r w' => r = .returned (.tuple #[.int .i64 0, .bool false]) ∧ Below w0.heap.size w0 w') a w := by
  obtain ⟨f, rfl, h4, -⟩ := ha.lit
  change Code.wp _ _ _ ⟨#[f 0, f 1, f 2, f 3, f 4, f 5, f 6, f 7, f 8, f 9, f 10, f 11, f 12, f 13, f 14, f 15, f 16, f 17, f 18, f 19, f 20, f 21, f 22, f 23, f 24, f 25, f 26, f 27, f 28, f 29, f 30, f 31, f 32, f 33, f 34, f 35, f 36, f 37, f 38, f 39, f 40, f 41, f 42, f 43, f 44, f 45, f 46, f 47, f 48, f 49, f 50, f 51, f 52, f 53, f 54, f 55, f 56, f 57, f 58, f 59, f 60, f 61, f 62, f 63, f 64, f 65, f 66], []⟩ _
  simp only at h4
  simp only [h4]
  clear h4
  conv => arg 2; whnf
  obtain ⟨m0, m1, m2, m3, m4, m5⟩ := cells6 r.out
  go_wp2
  go_ret2
  exact ⟨rfl, B.out⟩
set_option maxRecDepth 100000 in
set_option maxHeartbeats 2000000 in
theorem rw_g2 (g : Nat) (kd X : Int) (ng qu : Bool) (M LD : Nat) (a : Act) (w : World) (w0 : World) (B : Hid (Below w0.heap.size w0 w)) (r : Hid (w.heap[g]? = some (.cells #[.int .i64 kd, .bool ng, .int .u64 (M : Int), .int .i64 X, .bool qu, .int .u64 (LD : Int)] 27 (0, 0)))) (h0 : (kd == 0) = false) (h4 : (kd == 4) = false) (h3 : (kd == 3) = false) (hX : X = 11) (h : ng = false) (ha : At 67 [(4, .pointer (some ⟨g, 0, none⟩))] a) : Code.wp Try.prog (sq 2 body18) (bodyPost Try.prog Try.f18 fun r w' => r = .returned (.tuple #[.int .i64 0, .bool false]) ∧ Below w0.heap.size w0 w') a w := by
  subst hX
  subst h
  obtain ⟨f, rfl, h4, -⟩ := ha.lit
  change Code.wp _ _ _ ⟨#[f 0, f 1, f 2, f 3, f 4, f 5, f 6, f 7, f 8, f 9, f 10, f 11, f 12, f 13, f 14, f 15, f 16, f 17, f 18, f 19, f 20, f 21, f 22, f 23, f 24, f 25, f 26, f 27, f 28, f 29, f 30, f 31, f 32, f 33, f 34, f 35, f 36, f 37, f 38, f 39, f 40, f 41, f 42, f 43, f 44, f 45, f 46, f 47, f 48, f 49, f 50, f 51, f 52, f 53, f 54, f 55, f 56, f 57, f 58, f 59, f 60, f 61, f 62, f 63, f 64, f 65, f 66], []⟩ _
  simp only at h4
  simp only [h4]
  clear h4
  conv => arg 2; whnf
  obtain ⟨m0, m1, m2, m3, m4, m5⟩ := cells6 r.out
  go_wp2
  go_ret2
  exact ⟨rfl, B.out⟩
set_option maxRecDepth 100000 in
set_option maxHeartbeats 2000000 in
theorem rw_g3 (g : Nat) (kd X : Int) (ng qu : Bool) (M LD : Nat) (a : Act) (w : World) (w0 : World) (B : Hid (Below w0.heap.size w0 w)) (r : Hid (w.heap[g]? = some (.cells #[.int .i64 kd, .bool ng, .int .u64 (M : Int), .int .i64 X, .bool qu, .int .u64 (LD : Int)] 27 (0, 0)))) (h0 : (kd == 0) = false) (h4 : (kd == 4) = false) (h3 : (kd == 3) = false) (hX : X = 11) (h : ng = true) (hM : ((M : Int) == 4503599627370496) = false) (ha : At 67 [(4, .pointer (some ⟨g, 0, none⟩))] a) : Code.wp Try.prog (sq 2 body18) (bodyPost Try.prog Try.f18 fun r w' => r = .returned (.tuple #[.int .i64 0, .bool false]) ∧ Below w0.heap.size w0 w') a w := by
  subst hX
  subst h
  obtain ⟨f, rfl, h4, -⟩ := ha.lit
  change Code.wp _ _ _ ⟨#[f 0, f 1, f 2, f 3, f 4, f 5, f 6, f 7, f 8, f 9, f 10, f 11, f 12, f 13, f 14, f 15, f 16, f 17, f 18, f 19, f 20, f 21, f 22, f 23, f 24, f 25, f 26, f 27, f 28, f 29, f 30, f 31, f 32, f 33, f 34, f 35, f 36, f 37, f 38, f 39, f 40, f 41, f 42, f 43, f 44, f 45, f 46, f 47, f 48, f 49, f 50, f 51, f 52, f 53, f 54, f 55, f 56, f 57, f 58, f 59, f 60, f 61, f 62, f 63, f 64, f 65, f 66], []⟩ _
  simp only at h4
  simp only [h4]
  clear h4
  conv => arg 2; whnf
  obtain ⟨m0, m1, m2, m3, m4, m5⟩ := cells6 r.out
  go_wp2
  go_ret2
  exact ⟨rfl, B.out⟩
set_option maxRecDepth 100000 in
set_option maxHeartbeats 2000000 in
theorem rw_n {Q : Exit → Act → World → Prop} (g : Nat) (kd X : Int) (ng qu : Bool) (M LD : Nat) (a : Act) (w : World) (r : Hid (w.heap[g]? = some (.cells #[.int .i64 kd, .bool ng, .int .u64 (M : Int), .int .i64 X, .bool qu, .int .u64 (LD : Int)] 27 (0, 0)))) (h0 : (kd == 0) = false) (h4 : (kd == 4) = false) (h3 : (kd == 3) = false) (hX : (X == 11) = false) (h : ¬ 10 < X) (hK : Hid (∀ a w', Below w.heap.size w w' → At 67 [(4, .pointer (some ⟨g, 0, none⟩)), (5, .int .u64 (M : Int))] a → Code.wp Try.prog (sq 6 body18) Q a w')) (ha : At 67 [(4, .pointer (some ⟨g, 0, none⟩))] a) : Code.wp Try.prog (sq 2 body18) Q a w := by
  obtain ⟨f, rfl, h4, -⟩ := ha.lit
  change Code.wp _ _ _ ⟨#[f 0, f 1, f 2, f 3, f 4, f 5, f 6, f 7, f 8, f 9, f 10, f 11, f 12, f 13, f 14, f 15, f 16, f 17, f 18, f 19, f 20, f 21, f 22, f 23, f 24, f 25, f 26, f 27, f 28, f 29, f 30, f 31, f 32, f 33, f 34, f 35, f 36, f 37, f 38, f 39, f 40, f 41, f 42, f 43, f 44, f 45, f 46, f 47, f 48, f 49, f 50, f 51, f 52, f 53, f 54, f 55, f 56, f 57, f 58, f 59, f 60, f 61, f 62, f 63, f 64, f 65, f 66], []⟩ _
  simp only at h4
  simp only [h4]
  clear h4
  change Code.wp _ (Code.seq (hd (sq 2 body18)) (Code.seq (hd (sq 3 body18)) (Code.seq (hd (sq 4 body18)) (Code.seq (hd (sq 5 body18)) (sq 6 body18))))) _ _ _
  generalize sq 6 body18 = REST at hK ⊢
  conv => arg 2; arg 1; whnf
  conv => arg 2; arg 2; arg 1; whnf
  conv => arg 2; arg 2; arg 2; arg 1; whnf
  conv => arg 2; arg 2; arg 2; arg 2; arg 1; whnf
  obtain ⟨m0, m1, m2, m3, m4, m5⟩ := cells6 r.out
  go_wp2
  exact hK.out _ _ (Below.refl _ _) ⟨rfl, rfl, rfl, rfl, trivial⟩
set_option maxRecDepth 100000 in
set_option maxHeartbeats 2000000 in
theorem rw_l {Q : Exit → Act → World → Prop} (g : Nat) (kd X : Int) (ng qu : Bool) (M LD : Nat) (a : Act) (w : World) (r : Hid (w.heap[g]? = some (.cells #[.int .i64 kd, .bool ng, .int .u64 (M : Int), .int .i64 X, .bool qu, .int .u64 (LD : Int)] 27 (0, 0)))) (J : Nat) (hX : X + J = 0 ∨ (J = 0 ∧ 0 ≤ X)) (hJ0 : (J : Int) ≤ 20000) (hX0 : X ≤ 10) (hM : M < 18446744073709551616) (hdd : M % 2 ^ J = 0) (hK : Hid (∀ a w', Below w.heap.size w w' → At 67 [(4, .pointer (some ⟨g, 0, none⟩)), (5, .int .u64 ((M / 2 ^ J : Nat) : Int))] a → Code.wp Try.prog (sq 7 body18) Q a w')) (ha : At 67 [(4, .pointer (some ⟨g, 0, none⟩)), (5, .int .u64 (M : Int))] a) : Code.wp Try.prog (sq 6 body18) Q a w := by
  obtain ⟨f, rfl, h4, h5, -⟩ := ha.lit
  change Code.wp _ _ _ ⟨#[f 0, f 1, f 2, f 3, f 4, f 5, f 6, f 7, f 8, f 9, f 10, f 11, f 12, f 13, f 14, f 15, f 16, f 17, f 18, f 19, f 20, f 21, f 22, f 23, f 24, f 25, f 26, f 27, f 28, f 29, f 30, f 31, f 32, f 33, f 34, f 35, f 36, f 37, f 38, f 39, f 40, f 41, f 42, f 43, f 44, f 45, f 46, f 47, f 48, f 49, f 50, f 51, f 52, f 53, f 54, f 55, f 56, f 57, f 58, f 59, f 60, f 61, f 62, f 63, f 64, f 65, f 66], []⟩ _
  simp only at h4 h5
  simp only [h4, h5]
  clear h4 h5
  change Code.wp _ (Code.seq (hd (sq 6 body18)) (sq 7 body18)) _ _ _
  generalize sq 7 body18 = REST at hK ⊢
  conv => arg 2; arg 1; whnf
  obtain ⟨m0, m1, m2, m3, m4, m5⟩ := cells6 r.out
  go_wp2
  refine wp_loop_ghost_k (fun m a w' => ∃ j : Nat, j ≤ J ∧ m = J - j ∧ M % 2 ^ j = 0 ∧ At 67 [(4, .pointer (some ⟨g, 0, none⟩)), (5, .int .u64 ((M / 2 ^ j : Nat) : Int)), (6, .int .i64 (X + j))] a ∧ w' = w) J ⟨0, Nat.zero_le _, rfl, by rw [Nat.pow_zero, Nat.mod_one], by rw [show X + ((0 : Nat) : Int) = X by omega, Nat.pow_zero, Nat.div_one]; exact ⟨rfl, rfl, rfl, rfl, rfl, trivial⟩, rfl⟩ ?_
  rintro m a w' ⟨j, hj, rfl, hdj, ha, rfl⟩ J0 K1 hJ hK1
  have hal : M / 2 ^ j < 18446744073709551616 := Nat.lt_of_le_of_lt (Nat.div_le_self _ _) hM
  by_cases c : j < J
  · have hyb : -40000 ≤ X + (j : Int) ∧ X + (j : Int) < 0 := by omega
    obtain ⟨hy1, hy2⟩ := hyb
    have hnew : M / 2 ^ (j + 1) = M / 2 ^ j / 2 := by rw [Nat.pow_succ, Nat.div_div_eq_div_mul]
    have hbit := bitE _ hal
    have hls := low_split M j
    have hdiv : ((M / 2 ^ j : Nat) : Int).tdiv 2 = ((M / 2 ^ (j + 1) : Nat) : Int) := by
      rw [Int.tdiv_eq_ediv_of_nonneg (Int.natCast_nonneg _), hnew, Int.natCast_ediv]; rfl
    have hwa := u64_small (M / 2 ^ (j + 1)) (by have := Nat.div_le_self M (2 ^ (j + 1)); omega)
    have hpar := two_cases (Nat.mod_lt (M / 2 ^ j) (by omega : 2 > 0))
    have par : M / 2 ^ j % 2 = 0 := by
      rcases hpar with par | par
      · exact par
      · exfalso
        have h1 : M % 2 ^ (j + 1) = 0 := by
          have hdv : 2 ^ (j + 1) ∣ 2 ^ J := Nat.pow_dvd_pow 2 (by omega)
          have := Nat.mod_mod_of_dvd M hdv
          rw [hdd, Nat.zero_mod] at this
          exact this.symm
        rw [hls, par, hdj] at h1
        have := Nat.two_pow_pos j
        omega
    clear hpar
    have hdn : M % 2 ^ (j + 1) = 0 := by rw [hls, par, hdj]; simp
    rw [par] at hbit
    have hb0 : (bits .and .u64 ((M / 2 ^ j : Nat) : Int) 1 == 1) = false := hbit.trans rfl
    generalize ha' : M / 2 ^ (j + 1) = a' at *
    generalize M / 2 ^ j = b0 at *
    generalize hy : X + (j : Int) = y at *
    have ha' := show Hid _ from ha'
    have hy := show Hid _ from hy
    have hc := show Hid _ from c
    have hJ := show Hid _ from hJ
    have hdn := show Hid _ from hdn
    clear hnew hj c hJ0 hM hal hX hX0 m0 m1 m2 m3 m4 m5 hdd hls hdj par hbit hK
    obtain ⟨f, rfl, h4, h5, h6, -⟩ := ha.lit
    change Code.wp _ _ _ ⟨#[f 0, f 1, f 2, f 3, f 4, f 5, f 6, f 7, f 8, f 9, f 10, f 11, f 12, f 13, f 14, f 15, f 16, f 17, f 18, f 19, f 20, f 21, f 22, f 23, f 24, f 25, f 26, f 27, f 28, f 29, f 30, f 31, f 32, f 33, f 34, f 35, f 36, f 37, f 38, f 39, f 40, f 41, f 42, f 43, f 44, f 45, f 46, f 47, f 48, f 49, f 50, f 51, f 52, f 53, f 54, f 55, f 56, f 57, f 58, f 59, f 60, f 61, f 62, f 63, f 64, f 65, f 66], []⟩ _
    simp only at h4 h5 h6
    simp only [h4, h5, h6]
    clear h4 h5 h6
    go_wp2
    exact Handed.intro (J - (j + 1)) (by have := hc.out; omega) (hJ.out _ _ _ ⟨j + 1, hc.out, rfl, hdn.out, by rw [ha'.out, show X + ((j + 1 : Nat) : Int) = y + 1 by have := hy.out; omega]; exact ⟨rfl, rfl, rfl, rfl, rfl, trivial⟩, rfl⟩)
  · have hjJ : j = J := by omega
    subst hjJ
    have hyl : 0 ≤ X + (j : Int) := by omega
    clear c hj hJ hK1 hM hJ0 hal m0 m1 m2 m3 m4 m5 hX hX0 hdd hdj
    generalize M / 2 ^ j = b0 at *
    generalize hy : X + (j : Int) = y at *
    clear hy
    obtain ⟨f, rfl, h4, h5, h6, -⟩ := ha.lit
    change Code.wp _ _ _ ⟨#[f 0, f 1, f 2, f 3, f 4, f 5, f 6, f 7, f 8, f 9, f 10, f 11, f 12, f 13, f 14, f 15, f 16, f 17, f 18, f 19, f 20, f 21, f 22, f 23, f 24, f 25, f 26, f 27, f 28, f 29, f 30, f 31, f 32, f 33, f 34, f 35, f 36, f 37, f 38, f 39, f 40, f 41, f 42, f 43, f 44, f 45, f 46, f 47, f 48, f 49, f 50, f 51, f 52, f 53, f 54, f 55, f 56, f 57, f 58, f 59, f 60, f 61, f 62, f 63, f 64, f 65, f 66], []⟩ _
    simp only at h4 h5 h6
    simp only [h4, h5, h6]
    clear h4 h5 h6
    go_wp2
    exact hK.out _ _ (Below.refl _ _) ⟨rfl, rfl, rfl, rfl, trivial⟩
set_option maxRecDepth 100000 in
set_option maxHeartbeats 2000000 in
theorem rw_o (g : Nat) (kd X : Int) (ng qu : Bool) (M LD : Nat) (a : Act) (w : World) (r : Hid (w.heap[g]? = some (.cells #[.int .i64 kd, .bool ng, .int .u64 (M : Int), .int .i64 X, .bool qu, .int .u64 (LD : Int)] 27 (0, 0)))) (J : Nat) (hX : X + J = 0 ∨ (J = 0 ∧ 0 ≤ X)) (hJ0 : (J : Int) ≤ 20000) (_hX0 : X ≤ 10) (hM : M < 18446744073709551616) (hdd : ¬ M % 2 ^ J = 0) (w0 : World) (B : Hid (Below w0.heap.size w0 w)) (ha : At 67 [(4, .pointer (some ⟨g, 0, none⟩)), (5, .int .u64 (M : Int))] a) : Code.wp Try.prog (sq 6 body18) (bodyPost Try.prog Try.f18 fun r w' => r = .returned (.tuple #[.int .i64 0, .bool false]) ∧ Below w0.heap.size w0 w') a w := by
  obtain ⟨f, rfl, h4, h5, -⟩ := ha.lit
  change Code.wp _ _ _ ⟨#[f 0, f 1, f 2, f 3, f 4, f 5, f 6, f 7, f 8, f 9, f 10, f 11, f 12, f 13, f 14, f 15, f 16, f 17, f 18, f 19, f 20, f 21, f 22, f 23, f 24, f 25, f 26, f 27, f 28, f 29, f 30, f 31, f 32, f 33, f 34, f 35, f 36, f 37, f 38, f 39, f 40, f 41, f 42, f 43, f 44, f 45, f 46, f 47, f 48, f 49, f 50, f 51, f 52, f 53, f 54, f 55, f 56, f 57, f 58, f 59, f 60, f 61, f 62, f 63, f 64, f 65, f 66], []⟩ _
  simp only at h4 h5
  simp only [h4, h5]
  clear h4 h5
  conv => arg 2; whnf
  obtain ⟨m0, m1, m2, m3, m4, m5⟩ := cells6 r.out
  go_wp2
  refine wp_loop_ghost_k (fun m a w' => ∃ j : Nat, j ≤ J ∧ m = J - j ∧ M % 2 ^ j = 0 ∧ At 67 [(4, .pointer (some ⟨g, 0, none⟩)), (5, .int .u64 ((M / 2 ^ j : Nat) : Int)), (6, .int .i64 (X + j))] a ∧ w' = w) J ⟨0, Nat.zero_le _, rfl, by rw [Nat.pow_zero, Nat.mod_one], by rw [show X + ((0 : Nat) : Int) = X by omega, Nat.pow_zero, Nat.div_one]; exact ⟨rfl, rfl, rfl, rfl, rfl, trivial⟩, rfl⟩ ?_
  rintro m a w' ⟨j, hj, rfl, hdj, ha, rfl⟩ J0 K1 hJ hK1
  have hal : M / 2 ^ j < 18446744073709551616 := Nat.lt_of_le_of_lt (Nat.div_le_self _ _) hM
  by_cases c : j < J
  · have hyb : -40000 ≤ X + (j : Int) ∧ X + (j : Int) < 0 := by omega
    obtain ⟨hy1, hy2⟩ := hyb
    have hnew : M / 2 ^ (j + 1) = M / 2 ^ j / 2 := by rw [Nat.pow_succ, Nat.div_div_eq_div_mul]
    have hbit := bitE _ hal
    have hls := low_split M j
    have hdiv : ((M / 2 ^ j : Nat) : Int).tdiv 2 = ((M / 2 ^ (j + 1) : Nat) : Int) := by
      rw [Int.tdiv_eq_ediv_of_nonneg (Int.natCast_nonneg _), hnew, Int.natCast_ediv]; rfl
    have hwa := u64_small (M / 2 ^ (j + 1)) (by have := Nat.div_le_self M (2 ^ (j + 1)); omega)
    have hpar := two_cases (Nat.mod_lt (M / 2 ^ j) (by omega : 2 > 0))
    rcases hpar with par | par
    · skip
      have hdn : M % 2 ^ (j + 1) = 0 := by rw [hls, par, hdj]; simp
      rw [par] at hbit
      have hb0 : (bits .and .u64 ((M / 2 ^ j : Nat) : Int) 1 == 1) = false := hbit.trans rfl
      generalize ha' : M / 2 ^ (j + 1) = a' at *
      generalize M / 2 ^ j = b0 at *
      generalize hy : X + (j : Int) = y at *
      have ha' := show Hid _ from ha'
      have hy := show Hid _ from hy
      have hc := show Hid _ from c
      have hJ := show Hid _ from hJ
      have hdn := show Hid _ from hdn
      clear hnew hj c hJ0 hM hal hX _hX0 m0 m1 m2 m3 m4 m5 hdd hls hdj par hbit
      obtain ⟨f, rfl, h4, h5, h6, -⟩ := ha.lit
      change Code.wp _ _ _ ⟨#[f 0, f 1, f 2, f 3, f 4, f 5, f 6, f 7, f 8, f 9, f 10, f 11, f 12, f 13, f 14, f 15, f 16, f 17, f 18, f 19, f 20, f 21, f 22, f 23, f 24, f 25, f 26, f 27, f 28, f 29, f 30, f 31, f 32, f 33, f 34, f 35, f 36, f 37, f 38, f 39, f 40, f 41, f 42, f 43, f 44, f 45, f 46, f 47, f 48, f 49, f 50, f 51, f 52, f 53, f 54, f 55, f 56, f 57, f 58, f 59, f 60, f 61, f 62, f 63, f 64, f 65, f 66], []⟩ _
      simp only at h4 h5 h6
      simp only [h4, h5, h6]
      clear h4 h5 h6
      go_wp2
      exact Handed.intro (J - (j + 1)) (by have := hc.out; omega) (hJ.out _ _ _ ⟨j + 1, hc.out, rfl, hdn.out, by rw [ha'.out, show X + ((j + 1 : Nat) : Int) = y + 1 by have := hy.out; omega]; exact ⟨rfl, rfl, rfl, rfl, rfl, trivial⟩, rfl⟩)
    · rw [par] at hbit
      have hb0 : (bits .and .u64 ((M / 2 ^ j : Nat) : Int) 1 == 1) = true := hbit.trans rfl
      generalize M / 2 ^ (j + 1) = a' at *
      generalize M / 2 ^ j = b0 at *
      generalize X + (j : Int) = y at *
      clear hnew hj c hJ0 hM hal hX _hX0 m0 m1 m2 m3 m4 m5 hdd hls hdj par hbit hJ hK1
      obtain ⟨f, rfl, h4, h5, h6, -⟩ := ha.lit
      change Code.wp _ _ _ ⟨#[f 0, f 1, f 2, f 3, f 4, f 5, f 6, f 7, f 8, f 9, f 10, f 11, f 12, f 13, f 14, f 15, f 16, f 17, f 18, f 19, f 20, f 21, f 22, f 23, f 24, f 25, f 26, f 27, f 28, f 29, f 30, f 31, f 32, f 33, f 34, f 35, f 36, f 37, f 38, f 39, f 40, f 41, f 42, f 43, f 44, f 45, f 46, f 47, f 48, f 49, f 50, f 51, f 52, f 53, f 54, f 55, f 56, f 57, f 58, f 59, f 60, f 61, f 62, f 63, f 64, f 65, f 66], []⟩ _
      simp only at h4 h5 h6
      simp only [h4, h5, h6]
      clear h4 h5 h6
      go_wp2
      go_ret2
      exact ⟨rfl, B.out⟩
  · have hjJ : j = J := by omega
    subst hjJ
    exact absurd hdj hdd
set_option maxRecDepth 100000 in
set_option maxHeartbeats 2000000 in
theorem rw_k {Q : Exit → Act → World → Prop} (g : Nat) (kd X : Int) (ng qu : Bool) (M LD : Nat) (a : Act) (w : World) (r : Hid (w.heap[g]? = some (.cells #[.int .i64 kd, .bool ng, .int .u64 (M : Int), .int .i64 X, .bool qu, .int .u64 (LD : Int)] 27 (0, 0)))) (n T : Nat) (hT : (T : Int) = X ∨ (T = 0 ∧ X < 0)) (hT0 : (T : Int) ≤ 20) (hn : n * 2 ^ T < 9223372036854775808) (hK : Hid (∀ a w', Below w.heap.size w w' → At 67 [(4, .pointer (some ⟨g, 0, none⟩)), (5, .int .u64 ((n * 2 ^ T : Nat) : Int))] a → Code.wp Try.prog (sq 8 body18) Q a w')) (ha : At 67 [(4, .pointer (some ⟨g, 0, none⟩)), (5, .int .u64 (n : Int))] a) : Code.wp Try.prog (sq 7 body18) Q a w := by
  obtain ⟨f, rfl, h4, h5, -⟩ := ha.lit
  change Code.wp _ _ _ ⟨#[f 0, f 1, f 2, f 3, f 4, f 5, f 6, f 7, f 8, f 9, f 10, f 11, f 12, f 13, f 14, f 15, f 16, f 17, f 18, f 19, f 20, f 21, f 22, f 23, f 24, f 25, f 26, f 27, f 28, f 29, f 30, f 31, f 32, f 33, f 34, f 35, f 36, f 37, f 38, f 39, f 40, f 41, f 42, f 43, f 44, f 45, f 46, f 47, f 48, f 49, f 50, f 51, f 52, f 53, f 54, f 55, f 56, f 57, f 58, f 59, f 60, f 61, f 62, f 63, f 64, f 65, f 66], []⟩ _
  simp only at h4 h5
  simp only [h4, h5]
  clear h4 h5
  change Code.wp _ (Code.seq (hd (sq 7 body18)) (sq 8 body18)) _ _ _
  generalize sq 8 body18 = REST at hK ⊢
  conv => arg 2; arg 1; whnf
  go_wp2
  refine wp_loop_ghost_k (fun m a w' => ∃ i : Nat, i ≤ T ∧ m = T - i ∧ At 67 [(4, .pointer (some ⟨g, 0, none⟩)), (5, .int .u64 ((n * 2 ^ i : Nat) : Int)), (7, .int .i64 (i : Int))] a ∧ w' = w) T ⟨0, Nat.zero_le _, rfl, by rw [Nat.pow_zero, Nat.mul_one]; exact ⟨rfl, rfl, rfl, rfl, rfl, trivial⟩, rfl⟩ ?_
  rintro m a w' ⟨i, hi, rfl, ha, rfl⟩ J0 K1 hJ hK1
  obtain ⟨m0, m1, m2, m3, m4, m5⟩ := cells6 r.out
  have hle : n * 2 ^ i ≤ n * 2 ^ T := Nat.mul_le_mul_left _ (Nat.pow_le_pow_right (by omega) hi)
  by_cases c : i < T
  · have hnew : n * 2 ^ (i + 1) = n * 2 ^ i * 2 := by rw [Nat.pow_succ, Nat.mul_assoc]
    have hil : (i : Int) < X := by omega
    have hmul : IntKind.u64.wrap (((n * 2 ^ i : Nat) : Int) * 2) = ((n * 2 ^ (i + 1) : Nat) : Int) := by
      have := u64_small (n * 2 ^ i * 2) (by omega)
      rw [Int.natCast_mul] at this
      rw [hnew, Int.natCast_mul]
      exact this
    have hib : (i : Int) ≤ 20 := by omega
    generalize ha' : n * 2 ^ (i + 1) = a' at *
    generalize n * 2 ^ i = b0 at *
    have ha' := show Hid _ from ha'
    have hc := show Hid _ from c
    have hJ := show Hid _ from hJ
    clear hnew hi c hT hT0 hn hle hK m0 m1 m2 m4 m5
    obtain ⟨f, rfl, h4, h5, h7, -⟩ := ha.lit
    change Code.wp _ _ _ ⟨#[f 0, f 1, f 2, f 3, f 4, f 5, f 6, f 7, f 8, f 9, f 10, f 11, f 12, f 13, f 14, f 15, f 16, f 17, f 18, f 19, f 20, f 21, f 22, f 23, f 24, f 25, f 26, f 27, f 28, f 29, f 30, f 31, f 32, f 33, f 34, f 35, f 36, f 37, f 38, f 39, f 40, f 41, f 42, f 43, f 44, f 45, f 46, f 47, f 48, f 49, f 50, f 51, f 52, f 53, f 54, f 55, f 56, f 57, f 58, f 59, f 60, f 61, f 62, f 63, f 64, f 65, f 66], []⟩ _
    simp only at h4 h5 h7
    simp only [h4, h5, h7]
    clear h4 h5 h7
    go_wp2
    exact Handed.intro (T - (i + 1)) (by have := hc.out; omega) (hJ.out _ _ _ ⟨i + 1, hc.out, rfl, by rw [ha'.out, show ((i + 1 : Nat) : Int) = (i : Int) + 1 by omega]; exact ⟨rfl, rfl, rfl, rfl, rfl, trivial⟩, rfl⟩)
  · have hiT : i = T := by omega
    subst hiT
    have hil : X ≤ (i : Int) := by omega
    clear hT hT0 hn hle c hi hJ hK1 m0 m1 m2 m4 m5
    generalize n * 2 ^ i = b0 at *
    obtain ⟨f, rfl, h4, h5, h7, -⟩ := ha.lit
    change Code.wp _ _ _ ⟨#[f 0, f 1, f 2, f 3, f 4, f 5, f 6, f 7, f 8, f 9, f 10, f 11, f 12, f 13, f 14, f 15, f 16, f 17, f 18, f 19, f 20, f 21, f 22, f 23, f 24, f 25, f 26, f 27, f 28, f 29, f 30, f 31, f 32, f 33, f 34, f 35, f 36, f 37, f 38, f 39, f 40, f 41, f 42, f 43, f 44, f 45, f 46, f 47, f 48, f 49, f 50, f 51, f 52, f 53, f 54, f 55, f 56, f 57, f 58, f 59, f 60, f 61, f 62, f 63, f 64, f 65, f 66], []⟩ _
    simp only at h4 h5 h7
    simp only [h4, h5, h7]
    clear h4 h5 h7
    go_wp2
    exact hK.out _ _ (Below.refl _ _) ⟨rfl, rfl, rfl, rfl, trivial⟩
set_option maxRecDepth 100000 in
set_option maxHeartbeats 2000000 in
theorem rw_sp (g : Nat) (kd X : Int) (ng qu : Bool) (M LD : Nat) (a : Act) (w : World) (n : Nat) (w0 : World) (B : Hid (Below w0.heap.size w0 w)) (r : Hid (w.heap[g]? = some (.cells #[.int .i64 kd, .bool ng, .int .u64 (M : Int), .int .i64 X, .bool qu, .int .u64 (LD : Int)] 27 (0, 0)))) (hs : ng = false) (hw : IntKind.i64.wrap (n : Int) = n) (_hw2 : IntKind.i64.wrap (-(n : Int)) = -(n : Int)) (ha : At 67 [(4, .pointer (some ⟨g, 0, none⟩)), (5, .int .u64 (n : Int))] a) : Code.wp Try.prog (sq 8 body18) (bodyPost Try.prog Try.f18 fun r w' => r = .returned (.tuple #[.int .i64 (n : Int), .bool true]) ∧ Below w0.heap.size w0 w') a w := by
  subst hs
  obtain ⟨f, rfl, h4, h5, -⟩ := ha.lit
  change Code.wp _ _ _ ⟨#[f 0, f 1, f 2, f 3, f 4, f 5, f 6, f 7, f 8, f 9, f 10, f 11, f 12, f 13, f 14, f 15, f 16, f 17, f 18, f 19, f 20, f 21, f 22, f 23, f 24, f 25, f 26, f 27, f 28, f 29, f 30, f 31, f 32, f 33, f 34, f 35, f 36, f 37, f 38, f 39, f 40, f 41, f 42, f 43, f 44, f 45, f 46, f 47, f 48, f 49, f 50, f 51, f 52, f 53, f 54, f 55, f 56, f 57, f 58, f 59, f 60, f 61, f 62, f 63, f 64, f 65, f 66], []⟩ _
  simp only at h4 h5
  simp only [h4, h5]
  clear h4 h5
  conv => arg 2; whnf
  obtain ⟨m0, m1, m2, m3, m4, m5⟩ := cells6 r.out
  go_wp2
  go_ret2
  exact ⟨rfl, B.out⟩
set_option maxRecDepth 100000 in
set_option maxHeartbeats 2000000 in
theorem rw_sn (g : Nat) (kd X : Int) (ng qu : Bool) (M LD : Nat) (a : Act) (w : World) (n : Nat) (w0 : World) (B : Hid (Below w0.heap.size w0 w)) (r : Hid (w.heap[g]? = some (.cells #[.int .i64 kd, .bool ng, .int .u64 (M : Int), .int .i64 X, .bool qu, .int .u64 (LD : Int)] 27 (0, 0)))) (hs : ng = true) (hw : IntKind.i64.wrap (n : Int) = n) (hw2 : IntKind.i64.wrap (-(n : Int)) = -(n : Int)) (ha : At 67 [(4, .pointer (some ⟨g, 0, none⟩)), (5, .int .u64 (n : Int))] a) : Code.wp Try.prog (sq 8 body18) (bodyPost Try.prog Try.f18 fun r w' => r = .returned (.tuple #[.int .i64 (-(n : Int)), .bool true]) ∧ Below w0.heap.size w0 w') a w := by
  subst hs
  obtain ⟨f, rfl, h4, h5, -⟩ := ha.lit
  change Code.wp _ _ _ ⟨#[f 0, f 1, f 2, f 3, f 4, f 5, f 6, f 7, f 8, f 9, f 10, f 11, f 12, f 13, f 14, f 15, f 16, f 17, f 18, f 19, f 20, f 21, f 22, f 23, f 24, f 25, f 26, f 27, f 28, f 29, f 30, f 31, f 32, f 33, f 34, f 35, f 36, f 37, f 38, f 39, f 40, f 41, f 42, f 43, f 44, f 45, f 46, f 47, f 48, f 49, f 50, f 51, f 52, f 53, f 54, f 55, f 56, f 57, f 58, f 59, f 60, f 61, f 62, f 63, f 64, f 65, f 66], []⟩ _
  simp only at h4 h5
  simp only [h4, h5]
  clear h4 h5
  conv => arg 2; whnf
  obtain ⟨m0, m1, m2, m3, m4, m5⟩ := cells6 r.out
  go_wp2
  go_ret2
  exact ⟨rfl, B.out⟩
/-- A float as a whole number of 64 bits. -/
def wholeP (x : Pt) : Option Int :=
  if x.kind = 0 then some 0
  else if x.kind = 3 ∨ x.kind = 4 then none
  else if x.exp = 11 ∧ x.neg = true ∧ x.mant = 4503599627370496 then some (-9223372036854775808)
  else if 10 < x.exp then none
  else if x.mant % 2 ^ (-x.exp).toNat = 0 then some (if x.neg then -((x.mant / 2 ^ (-x.exp).toNat * 2 ^ x.exp.toNat : Nat) : Int) else ((x.mant / 2 ^ (-x.exp).toNat * 2 ^ x.exp.toNat : Nat) : Int))
  else none
def wholeV (v : Option Int) : Value := .tuple #[.int .i64 (v.getD 0), .bool v.isSome]
set_option maxHeartbeats 1000000 in
theorem rwhole_any (b : Nat) (w : World) (hb : b < 18446744073709551616) : Calls Try.prog 18 #[.int .u64 (b : Int)] w fun e w' => e = .returned (wholeV (wholeP (pt 52 11 1023 b))) ∧ Below w.heap.size w w' := by
  have k11 := fun w => rparts_any lay64 b w hb
  have pe := pt_exp lay64 b
  have h34 : (pt 52 11 1023 b).kind = 3 ∨ (pt 52 11 1023 b).kind = 4 → (pt 52 11 1023 b).exp = 0 := by
    unfold pt
    repeat' split
    all_goals (dsimp only; intro h; omega)
  have hM : (pt 52 11 1023 b).mant < 9007199254740992 := by
    have q1 : (2 : Nat) ^ 52 = 4503599627370496 := by decide
    have := Nat.mod_lt b (show 2 ^ 52 > 0 by decide)
    unfold pt
    repeat' split
    all_goals (dsimp only; omega)
  unfold wholeP
  generalize pt 52 11 1023 b = y at *
  obtain ⟨kd, ng, M, X, qu, LD⟩ := y
  unfold Pt.val at k11
  dsimp only at *
  refine rw_a b kd X ng qu M LD w k11 fun a w1 g B1 r1 ha => ?_
  by_cases h0 : kd = 0
  · rw [if_pos h0]
    exact rw_0 g kd X ng qu M LD a w1 w B1 r1 h0 ha
  rw [if_neg h0]
  have h0b : (kd == 0) = false := beq_eq_false_iff_ne.2 h0
  by_cases h4 : kd = 4
  · rw [if_pos (.inr h4)]
    exact rw_4 g kd X ng qu M LD a w1 w B1 r1 h4 (beq_eq_false_iff_ne.2 (by rw [h34 (.inr h4)]; decide)) ha
  by_cases h3 : kd = 3
  · rw [if_pos (.inl h3)]
    exact rw_3 g kd X ng qu M LD a w1 w B1 r1 h3 (beq_eq_false_iff_ne.2 (by rw [h34 (.inl h3)]; decide)) ha
  rw [if_neg (by omega)]
  have h4b : (kd == 4) = false := beq_eq_false_iff_ne.2 h4
  have h3b : (kd == 3) = false := beq_eq_false_iff_ne.2 h3
  by_cases hX : X = 11
  · by_cases hn : ng = true
    · by_cases hm : M = 4503599627370496
      · rw [if_pos ⟨hX, hn, hm⟩]
        exact rw_m g kd X ng qu M LD a w1 w B1 r1 h0b hX hn hm ha
      · rw [if_neg (fun h => hm h.2.2), if_pos (by omega)]
        exact rw_g3 g kd X ng qu M LD a w1 w B1 r1 h0b h4b h3b hX hn (beq_eq_false_iff_ne.2 (by omega)) ha
    · rw [if_neg (fun h => hn h.2.1), if_pos (by omega)]
      exact rw_g2 g kd X ng qu M LD a w1 w B1 r1 h0b h4b h3b hX (by simpa using hn) ha
  have hXb : (X == 11) = false := beq_eq_false_iff_ne.2 hX
  rw [if_neg (fun h => hX h.1)]
  by_cases hg : 10 < X
  · rw [if_pos hg]
    exact rw_g1 g kd X ng qu M LD a w1 w B1 r1 h0b h4b h3b hXb hg ha
  rw [if_neg hg]
  refine rw_n g kd X ng qu M LD a w1 r1 h0b h4b h3b hXb hg (fun a w2 B2 ha => ?_) ha
  have r2 := below_at r1 B2
  have B2 : Below w.heap.size w w2 := B1.trans (B2.mono B1.size)
  obtain ⟨J, hJ⟩ : ∃ J : Nat, (-X).toNat = J := ⟨_, rfl⟩
  obtain ⟨T, hT⟩ : ∃ T : Nat, X.toNat = T := ⟨_, rfl⟩
  rw [hJ, hT]
  by_cases hd : M % 2 ^ J = 0
  · rw [if_pos hd]
    refine rw_l g kd X ng qu M LD a w2 r2 J (by omega) (by omega) (by omega) (by omega) hd (fun a w3 B3 ha => ?_) ha
    have r3 := below_at r2 B3
    have B3 : Below w.heap.size w w3 := B2.trans (B3.mono B2.size)
    have hN : M / 2 ^ J * 2 ^ T < 9223372036854775808 := by
      have h1 := Nat.div_le_self M (2 ^ J)
      have h2 : 2 ^ T ≤ 2 ^ 10 := Nat.pow_le_pow_right (by omega) (by omega)
      have h3 : M / 2 ^ J * 2 ^ T ≤ M * 2 ^ 10 := Nat.mul_le_mul h1 h2
      omega
    refine rw_k g kd X ng qu M LD a w3 r3 (M / 2 ^ J) T (by omega) (by omega) hN (fun a w4 B4 ha => ?_) ha
    have r4 := below_at r3 B4
    have B4 : Below w.heap.size w w4 := B3.trans (B4.mono B3.size)
    generalize M / 2 ^ J * 2 ^ T = n at *
    cases ng
    · exact rw_sp g kd X false qu M LD a w4 n w B4 r4 rfl (i64_in _ (by omega) (by omega)) (i64_in _ (by omega) (by omega)) ha
    · exact rw_sn g kd X true qu M LD a w4 n w B4 r4 rfl (i64_in _ (by omega) (by omega)) (i64_in _ (by omega) (by omega)) ha
  · rw [if_neg hd]
    exact rw_o g kd X ng qu M LD a w2 r2 J (by omega) (by omega) (by omega) (by omega) hd w B2 ha
end Go.Proofs.Ytjcjecbffnadaab
