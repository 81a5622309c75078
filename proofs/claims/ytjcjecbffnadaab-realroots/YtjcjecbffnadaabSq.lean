/-
  The contract of Sqrt, the code's. Condition: the float's bits fit.
-/
import Derived.Test.YtjcjecbffnadaabRt
import Derived.Test.YtjcjecbffnadaabRa1
import Derived.Laws.Bits128
namespace Go.Proofs.Ytjcjecbffnadaab
open Go.RowKit
noncomputable def body31 : Code := Try.f31.body.getD .skip
theorem i64_and1 (n : Int) : bits .and .i64 n 1 = n % 2 := by
  have h1 : (BitVec.ofInt 64 1).toNat = 2 ^ 1 - 1 := by decide
  have key : (BitVec.ofInt 64 n &&& BitVec.ofInt 64 1).toNat = (n % ((2 ^ 64 : Nat) : Int)).toNat % 2 ^ 1 := by
    rw [BitVec.toNat_and, BitVec.toNat_ofInt, h1, Nat.and_two_pow_sub_one_eq_mod]
  show IntKind.i64.wrap ((BitVec.ofInt 64 n &&& BitVec.ofInt 64 1).toNat : Nat) = n % 2
  rw [key, IntKind.wrap_i64]
  omega
set_option maxRecDepth 100000 in
set_option maxHeartbeats 2000000 in
theorem lz_by (M LN : Nat) (z : Int) (w : World) (hz : IntKind.i64.wrap (64 - (LN : Int)) = z) (k58 : ∀ w, Calls Try.prog 58 #[.int .u64 (M : Int)] w fun e w' => e = .returned (.int .i64 (LN : Nat)) ∧ Below w.heap.size w w') : Calls Try.prog 60 #[.int .u64 (M : Int)] w fun e w' => e = .returned (.int .i64 z) ∧ Below w.heap.size w w' := by
  go_enter Try.func60, Try.ntmps60
  go_wp2_with (go_at_call 58; refine (k58 _).mono ?_)
  intro e1 w1 hq
  first | (obtain ⟨rfl, b1⟩ : _ ∧ _ := hq) | (subst hq; intro b1)
  have B1 := show Hid _ from b1
  clear b1
  go_wp2
  go_ret
  exact ⟨rfl, B1.out⟩
set_option maxRecDepth 100000 in
set_option maxHeartbeats 2000000 in
theorem sq_a {Q : Ending → World → Prop} (b : Nat) (kd X : Int) (ng qu : Bool) (M LD : Nat) (w : World) (k46 : ∀ w, Calls Try.prog 46 #[.float .f64 b] w fun e w' => e = .returned (.agg #[.int .i64 kd, .bool ng, .int .u64 (M : Int), .int .i64 X, .bool qu, .int .u64 (LD : Int)]) ∧ Below w.heap.size w w')
    (hK : Hid (∀ a w' g, Below w.heap.size w w' → w'.heap[g]? = some (.cells #[.int .i64 kd, .bool ng, .int .u64 (M : Int), .int .i64 X, .bool qu, .int .u64 (LD : Int)] 66 (0, 0)) → At 52 [(0, .float .f64 b), (3, .pointer (some ⟨g, 0, none⟩))] a → Code.wp Try.prog (sq 2 body31) (bodyPost Try.prog Try.f31 Q) a w')) : Calls Try.prog 31 #[.float .f64 b] w Q := by
  go_enter Try.func31, Try.ntmps31
  change Code.wp _ (Code.seq (hd (sq 0 body31)) (Code.seq (hd (sq 1 body31)) (sq 2 body31))) _ _ _
  generalize sq 2 body31 = REST at hK ⊢
  conv => arg 2; arg 1; whnf
  conv => arg 2; arg 2; arg 1; whnf
  go_wp2_with (go_at_call 46; refine (k46 _).mono ?_)
  intro e1 w1 hq
  first | (obtain ⟨rfl, b1⟩ : _ ∧ _ := hq) | (subst hq; intro b1)
  have B1 : Hid (Below w.heap.size w (w1.alloc (.cells #[.int .i64 kd, .bool ng, .int .u64 (M : Int), .int .i64 X, .bool qu, .int .u64 (LD : Int)] 66))) := b1.alloc b1.size _
  have r1 : Hid ((w1.alloc (.cells #[.int .i64 kd, .bool ng, .int .u64 (M : Int), .int .i64 X, .bool qu, .int .u64 (LD : Int)] 66)).heap[w1.heap.size]? = some (.cells #[.int .i64 kd, .bool ng, .int .u64 (M : Int), .int .i64 X, .bool qu, .int .u64 (LD : Int)] 66 (0, 0))) := heap_alloc_last _ _
  clear b1
  go_wp2
  exact hK.out _ _ _ B1.out r1.out ⟨rfl, rfl, rfl, rfl, trivial⟩
set_option maxRecDepth 100000 in
set_option maxHeartbeats 2000000 in
theorem sq_0 (b : Nat) (kd X : Int) (ng qu : Bool) (M LD : Nat) (g : Nat) (a : Act) (w0 w : World) (B : Hid (Below w0.heap.size w0 w)) (r : Hid (w.heap[g]? = some (.cells #[.int .i64 kd, .bool ng, .int .u64 (M : Int), .int .i64 X, .bool qu, .int .u64 (LD : Int)] 66 (0, 0)))) (h : kd = 0) (ha : At 52 [(0, .float .f64 b), (3, .pointer (some ⟨g, 0, none⟩))] a) : Code.wp Try.prog (sq 2 body31) (bodyPost Try.prog Try.f31 fun e w' => e = .returned (.float .f64 b) ∧ Below w0.heap.size w0 w') a w := by
  subst h
  obtain ⟨m0, m1, m2, m3, m4, m5⟩ := cells6 r.out
  obtain ⟨f, rfl, h0, h3, -⟩ := ha.lit
  change Code.wp _ _ _ ⟨#[f 0, f 1, f 2, f 3, f 4, f 5, f 6, f 7, f 8, f 9, f 10, f 11, f 12, f 13, f 14, f 15, f 16, f 17, f 18, f 19, f 20, f 21, f 22, f 23, f 24, f 25, f 26, f 27, f 28, f 29, f 30, f 31, f 32, f 33, f 34, f 35, f 36, f 37, f 38, f 39, f 40, f 41, f 42, f 43, f 44, f 45, f 46, f 47, f 48, f 49, f 50, f 51], []⟩ _
  simp only at h0 h3
  simp only [h0, h3]
  clear h0 h3
  conv => arg 2; whnf
  go_wp2
  go_ret
  exact ⟨rfl, B.out⟩
set_option maxRecDepth 100000 in
set_option maxHeartbeats 2000000 in
theorem sq_i (b : Nat) (kd X : Int) (ng qu : Bool) (M LD : Nat) (g : Nat) (a : Act) (w0 w : World) (B : Hid (Below w0.heap.size w0 w)) (r : Hid (w.heap[g]? = some (.cells #[.int .i64 kd, .bool ng, .int .u64 (M : Int), .int .i64 X, .bool qu, .int .u64 (LD : Int)] 66 (0, 0)))) (h : kd = 3) (hg : ng = false) (ha : At 52 [(0, .float .f64 b), (3, .pointer (some ⟨g, 0, none⟩))] a) : Code.wp Try.prog (sq 2 body31) (bodyPost Try.prog Try.f31 fun e w' => e = .returned (.float .f64 b) ∧ Below w0.heap.size w0 w') a w := by
  subst h hg
  obtain ⟨m0, m1, m2, m3, m4, m5⟩ := cells6 r.out
  obtain ⟨f, rfl, h0, h3, -⟩ := ha.lit
  change Code.wp _ _ _ ⟨#[f 0, f 1, f 2, f 3, f 4, f 5, f 6, f 7, f 8, f 9, f 10, f 11, f 12, f 13, f 14, f 15, f 16, f 17, f 18, f 19, f 20, f 21, f 22, f 23, f 24, f 25, f 26, f 27, f 28, f 29, f 30, f 31, f 32, f 33, f 34, f 35, f 36, f 37, f 38, f 39, f 40, f 41, f 42, f 43, f 44, f 45, f 46, f 47, f 48, f 49, f 50, f 51], []⟩ _
  simp only at h0 h3
  simp only [h0, h3]
  clear h0 h3
  conv => arg 2; whnf
  go_wp2
  go_ret
  exact ⟨rfl, B.out⟩
set_option maxRecDepth 100000 in
set_option maxHeartbeats 2000000 in
theorem sq_4 (b : Nat) (kd X : Int) (ng qu : Bool) (M LD : Nat) (g : Nat) (a : Act) (w0 w : World) (B : Hid (Below w0.heap.size w0 w)) (r : Hid (w.heap[g]? = some (.cells #[.int .i64 kd, .bool ng, .int .u64 (M : Int), .int .i64 X, .bool qu, .int .u64 (LD : Int)] 66 (0, 0)))) (h : kd = 4) (ha : At 52 [(0, .float .f64 b), (3, .pointer (some ⟨g, 0, none⟩))] a) : Code.wp Try.prog (sq 2 body31) (bodyPost Try.prog Try.f31 fun e w' => e = .returned (.float .f64 9221120237041090560) ∧ Below w0.heap.size w0 w') a w := by
  have k59 := cnone_any
  subst h
  obtain ⟨m0, m1, m2, m3, m4, m5⟩ := cells6 r.out
  obtain ⟨f, rfl, h0, h3, -⟩ := ha.lit
  change Code.wp _ _ _ ⟨#[f 0, f 1, f 2, f 3, f 4, f 5, f 6, f 7, f 8, f 9, f 10, f 11, f 12, f 13, f 14, f 15, f 16, f 17, f 18, f 19, f 20, f 21, f 22, f 23, f 24, f 25, f 26, f 27, f 28, f 29, f 30, f 31, f 32, f 33, f 34, f 35, f 36, f 37, f 38, f 39, f 40, f 41, f 42, f 43, f 44, f 45, f 46, f 47, f 48, f 49, f 50, f 51], []⟩ _
  simp only at h0 h3
  simp only [h0, h3]
  clear h0 h3
  conv => arg 2; whnf
  go_wp2_with (go_at_call 59; refine (k59 _).mono ?_)
  intro e1 w1 hq
  first | (obtain ⟨rfl, b1⟩ : _ ∧ _ := hq) | (subst hq; intro b1)
  clear m0 m1 m2 m3 m4 m5
  have B1 : Hid (Below w0.heap.size w0 w1) := B.out.trans (b1.mono B.out.size)
  clear b1
  go_wp2
  go_ret
  exact ⟨rfl, B1.out⟩
set_option maxRecDepth 100000 in
set_option maxHeartbeats 2000000 in
theorem sq_g (b : Nat) (kd X : Int) (ng qu : Bool) (M LD : Nat) (g : Nat) (a : Act) (w0 w : World) (B : Hid (Below w0.heap.size w0 w)) (r : Hid (w.heap[g]? = some (.cells #[.int .i64 kd, .bool ng, .int .u64 (M : Int), .int .i64 X, .bool qu, .int .u64 (LD : Int)] 66 (0, 0)))) (h0 : (kd == 0) = false) (h : (kd == 4) = false) (hg : ng = true) (ha : At 52 [(0, .float .f64 b), (3, .pointer (some ⟨g, 0, none⟩))] a) : Code.wp Try.prog (sq 2 body31) (bodyPost Try.prog Try.f31 fun e w' => e = .returned (.float .f64 9221120237041090560) ∧ Below w0.heap.size w0 w') a w := by
  have k59 := cnone_any
  subst hg
  obtain ⟨m0, m1, m2, m3, m4, m5⟩ := cells6 r.out
  obtain ⟨f, rfl, h0, h3, -⟩ := ha.lit
  change Code.wp _ _ _ ⟨#[f 0, f 1, f 2, f 3, f 4, f 5, f 6, f 7, f 8, f 9, f 10, f 11, f 12, f 13, f 14, f 15, f 16, f 17, f 18, f 19, f 20, f 21, f 22, f 23, f 24, f 25, f 26, f 27, f 28, f 29, f 30, f 31, f 32, f 33, f 34, f 35, f 36, f 37, f 38, f 39, f 40, f 41, f 42, f 43, f 44, f 45, f 46, f 47, f 48, f 49, f 50, f 51], []⟩ _
  simp only at h0 h3
  simp only [h0, h3]
  clear h0 h3
  conv => arg 2; whnf
  go_wp2_with (go_at_call 59; refine (k59 _).mono ?_)
  intro e1 w1 hq
  first | (obtain ⟨rfl, b1⟩ : _ ∧ _ := hq) | (subst hq; intro b1)
  clear m0 m1 m2 m3 m4 m5
  have B1 : Hid (Below w0.heap.size w0 w1) := B.out.trans (b1.mono B.out.size)
  clear b1
  go_wp2
  go_ret
  exact ⟨rfl, B1.out⟩
set_option maxRecDepth 100000 in
set_option maxHeartbeats 2000000 in
theorem sq_b {Q : Exit → Act → World → Prop} (b : Nat) (kd X : Int) (ng qu : Bool) (M LD : Nat) (g : Nat) (a : Act) (w : World) (r : Hid (w.heap[g]? = some (.cells #[.int .i64 kd, .bool ng, .int .u64 (M : Int), .int .i64 X, .bool qu, .int .u64 (LD : Int)] 66 (0, 0)))) (h0 : (kd == 0) = false) (h4 : (kd == 4) = false) (h3 : (kd == 3) = false) (hg : ng = false) (hK : Hid (∀ a, At 52 [(3, .pointer (some ⟨g, 0, none⟩))] a → Code.wp Try.prog (sq 3 body31) Q a w)) (ha : At 52 [(0, .float .f64 b), (3, .pointer (some ⟨g, 0, none⟩))] a) : Code.wp Try.prog (sq 2 body31) Q a w := by
  subst hg
  obtain ⟨m0, m1, m2, m3, m4, m5⟩ := cells6 r.out
  obtain ⟨f, rfl, h0, h3, -⟩ := ha.lit
  change Code.wp _ _ _ ⟨#[f 0, f 1, f 2, f 3, f 4, f 5, f 6, f 7, f 8, f 9, f 10, f 11, f 12, f 13, f 14, f 15, f 16, f 17, f 18, f 19, f 20, f 21, f 22, f 23, f 24, f 25, f 26, f 27, f 28, f 29, f 30, f 31, f 32, f 33, f 34, f 35, f 36, f 37, f 38, f 39, f 40, f 41, f 42, f 43, f 44, f 45, f 46, f 47, f 48, f 49, f 50, f 51], []⟩ _
  simp only at h0 h3
  simp only [h0, h3]
  clear h0 h3
  change Code.wp _ (Code.seq (hd (sq 2 body31)) (sq 3 body31)) _ _ _
  generalize sq 3 body31 = REST at hK ⊢
  conv => arg 2; arg 1; whnf
  go_wp2
  exact hK.out _ ⟨rfl, rfl, rfl, trivial⟩
set_option maxRecDepth 100000 in
set_option maxHeartbeats 2000000 in
theorem sq_c {Q : Exit → Act → World → Prop} (kd X : Int) (ng qu : Bool) (M LD : Nat) (g sh : Nat) (z y pa : Int) (a : Act) (w : World) (r : Hid (w.heap[g]? = some (.cells #[.int .i64 kd, .bool ng, .int .u64 (M : Int), .int .i64 X, .bool qu, .int .u64 (LD : Int)] 66 (0, 0)))) (k60 : ∀ w, Calls Try.prog 60 #[.int .u64 (M : Int)] w fun e w' => e = .returned (.int .i64 z) ∧ Below w.heap.size w w') (h1 : (IntKind.i64.wrap (X - z) = y)) (h2 : bits .and .i64 y 1 = pa) (h3 : (IntKind.i64.wrap (z - pa) = (sh : Int))) (hK : Hid (∀ a w', Below w.heap.size w w' → At 52 [(3, .pointer (some ⟨g, 0, none⟩)), (4, .int .i64 (sh : Int))] a → Code.wp Try.prog (sq 5 body31) Q a w')) (ha : At 52 [(3, .pointer (some ⟨g, 0, none⟩))] a) : Code.wp Try.prog (sq 3 body31) Q a w := by
  obtain ⟨m0, m1, m2, m3, m4, m5⟩ := cells6 r.out
  obtain ⟨f, rfl, h3, -⟩ := ha.lit
  change Code.wp _ _ _ ⟨#[f 0, f 1, f 2, f 3, f 4, f 5, f 6, f 7, f 8, f 9, f 10, f 11, f 12, f 13, f 14, f 15, f 16, f 17, f 18, f 19, f 20, f 21, f 22, f 23, f 24, f 25, f 26, f 27, f 28, f 29, f 30, f 31, f 32, f 33, f 34, f 35, f 36, f 37, f 38, f 39, f 40, f 41, f 42, f 43, f 44, f 45, f 46, f 47, f 48, f 49, f 50, f 51], []⟩ _
  simp only at h3
  simp only [h3]
  clear h3
  change Code.wp _ (Code.seq (hd (sq 3 body31)) (Code.seq (hd (sq 4 body31)) (sq 5 body31))) _ _ _
  generalize sq 5 body31 = REST at hK ⊢
  conv => arg 2; arg 1; whnf
  conv => arg 2; arg 2; arg 1; whnf
  go_wp2_with (go_at_call 60; refine (k60 _).mono ?_)
  intro e1 w1 hq
  first | (obtain ⟨rfl, b1⟩ : _ ∧ _ := hq) | (subst hq; intro b1)
  have r1 := below_at r.out b1
  have B1 := show Hid _ from b1
  clear m0 m1 m2 m3 m4 m5 b1
  obtain ⟨m0, m1, m2, m3, m4, m5⟩ := cells6 r1
  clear r1
  go_wp2
  exact hK.out _ _ B1.out ⟨rfl, rfl, rfl, rfl, trivial⟩
set_option maxRecDepth 100000 in
set_option maxHeartbeats 2000000 in
theorem sq_d (kd X : Int) (ng qu : Bool) (M LD : Nat) (g sh n rc V : Nat) (y1 y2 y3 y4 : Int) (a : Act) (w0 w : World) (B : Hid (Below w0.heap.size w0 w)) (r : Hid (w.heap[g]? = some (.cells #[.int .i64 kd, .bool ng, .int .u64 (M : Int), .int .i64 X, .bool qu, .int .u64 (LD : Int)] 66 (0, 0)))) (hs : (sh : Int) ≤ 64) (hn : IntKind.u64.wrap ((M : Int) * 2 ^ sh) = (n : Int)) (k61 : ∀ w, Calls Try.prog 61 #[.int .u64 (n : Int)] w fun e w' => e = .returned (.int .u64 (rc : Int)) ∧ Below w.heap.size w w') (h1 : (IntKind.i64.wrap (X - sh) = y1)) (h2 : y1.tdiv 2 = y2) (h2w : (IntKind.i64.wrap (y2) = y2)) (h3 : (IntKind.i64.wrap (y2 + 32) = y3)) (h4 : (IntKind.i64.wrap (y3 - 55) = y4)) (k50 : ∀ w, Calls Try.prog 50 #[.agg #[.int .i64 0, .bool false, .int .u64 (rc : Int), .int .i64 y4, .bool false, .int .u64 0]] w fun e w' => e = .returned (.float .f64 V) ∧ Below w.heap.size w w') (ha : At 52 [(3, .pointer (some ⟨g, 0, none⟩)), (4, .int .i64 (sh : Int))] a) : Code.wp Try.prog (sq 5 body31) (bodyPost Try.prog Try.f31 fun e w' => e = .returned (.float .f64 V) ∧ Below w0.heap.size w0 w') a w := by
  obtain ⟨m0, m1, m2, m3, m4, m5⟩ := cells6 r.out
  obtain ⟨f, rfl, h3, h4, -⟩ := ha.lit
  change Code.wp _ _ _ ⟨#[f 0, f 1, f 2, f 3, f 4, f 5, f 6, f 7, f 8, f 9, f 10, f 11, f 12, f 13, f 14, f 15, f 16, f 17, f 18, f 19, f 20, f 21, f 22, f 23, f 24, f 25, f 26, f 27, f 28, f 29, f 30, f 31, f 32, f 33, f 34, f 35, f 36, f 37, f 38, f 39, f 40, f 41, f 42, f 43, f 44, f 45, f 46, f 47, f 48, f 49, f 50, f 51], []⟩ _
  simp only at h3 h4
  simp only [h3, h4]
  clear h3 h4
  conv => arg 2; whnf
  go_wp2_with (go_at_call 61; refine (k61 _).mono ?_)
  intro e1 w1 hq
  first | (obtain ⟨rfl, b1⟩ : _ ∧ _ := hq) | (subst hq; intro b1)
  have r1 := below_at r.out b1
  clear m0 m1 m2 m3 m4 m5
  have B1 : Hid (Below w0.heap.size w0 w1) := B.out.trans (b1.mono B.out.size)
  clear b1
  obtain ⟨m0, m1, m2, m3, m4, m5⟩ := cells6 r1
  clear r1
  go_wp2_with (go_at_call 50; refine (k50 _).mono ?_)
  intro e2 w2 hq
  first | (obtain ⟨rfl, b2⟩ : _ ∧ _ := hq) | (subst hq; intro b2)
  have B2 : Hid (Below w0.heap.size w0 w2) := B1.out.trans (b2.mono B1.out.size)
  clear b2
  go_wp2
  go_ret
  exact ⟨rfl, B2.out⟩
set_option maxHeartbeats 1000000 in
/-- A positive number's root. -/
theorem csqrt_num (b : Nat) (kd X : Int) (qu : Bool) (M LD : Nat) (w : World) (l pa sh R S : Nat) (H : Int) (k46 : ∀ w, Calls Try.prog 46 #[.float .f64 b] w fun e w' => e = .returned (.agg #[.int .i64 kd, .bool false, .int .u64 (M : Int), .int .i64 X, .bool qu, .int .u64 (LD : Int)]) ∧ Below w.heap.size w w')
    (hk : kd = 1 ∨ kd = 2) (hM0 : ¬ M = 0) (hM : M < 9007199254740992) (hX1 : -1074 ≤ X) (hX2 : X ≤ 971) (hl : l = Lib.bitLen M) (hl2 : l ≤ 53) (hpa : (X - (64 - (l : Int))) % 2 = pa) (hsh : (64 - (l : Int)) - pa = sh) (hH : X - sh = 2 * H) (hn : M * 2 ^ sh < 18446744073709551616) (hR : Rt (M * 2 ^ sh * 70368744177664) R S) (hst : stk R S < 18446744073709551616) :
    Calls Try.prog 31 #[.float .f64 b] w fun e w' => e = .returned (.float .f64 (nearB 52 11 1023 (stk R S) (H - 23))) ∧ Below w.heap.size w w' := by
  refine sq_a b kd X false qu M LD w k46 fun a w1 g B1 r1 ha => ?_
  have n0 : (kd == 0) = false := beq_eq_false_iff_ne.2 (by omega)
  have n3 : (kd == 3) = false := beq_eq_false_iff_ne.2 (by omega)
  have n4 : (kd == 4) = false := beq_eq_false_iff_ne.2 (by omega)
  refine sq_b b kd X false qu M LD g a w1 r1 n0 n4 n3 rfl (fun a ha => ?_) ha
  have k58 := fun w => (len_any M w (by omega)).mono fun e w' h => (show e = _ ∧ Below w.heap.size w w' from ⟨h.1, by rw [h.2]; exact Below.refl _ _⟩)
  rw [← hl] at k58
  have k60 := fun w => lz_by M l (64 - (l : Int)) w (i64_in _ (by omega) (by omega)) k58
  refine sq_c kd X false qu M LD g sh (64 - (l : Int)) (X - (64 - (l : Int))) pa a w1 r1 k60 (i64_in _ (by omega) (by omega)) (by rw [i64_and1]; exact hpa) (by rw [i64_in _ (by omega) (by omega)]; exact hsh) (fun a w2 B2 ha => ?_) ha
  have k61 := fun w => (rootOf_any (M * 2 ^ sh) R S w hn hR).mono fun e w' h => (show e = _ ∧ Below w.heap.size w w' from ⟨h.1, by rw [h.2]; exact Below.refl _ _⟩)
  have k50 := fun w => number_any ⟨0, false, stk R S, H - 23, false, 0⟩ w hst (by show _ ≤ H - 23; omega) (by show H - 23 ≤ _; omega)
  unfold rndB Pt.val at k50
  dsimp only at k50
  rw [if_neg (show ¬ (0 : Int) = 4 by decide), if_neg (show ¬ (0 : Int) = 3 by decide), if_neg (by decide), Nat.zero_add] at k50
  exact sq_d kd X false qu M LD g sh (M * 2 ^ sh) (stk R S) _ (2 * H) H (H + 32) (H - 23) a w w2 (B1.trans (B2.mono B1.size)) (below_at r1 B2) (by omega) (by rw [← u64_small (M * 2 ^ sh) (by omega), Int.natCast_mul, Int.natCast_pow]; rfl) k61 (by rw [i64_in _ (by omega) (by omega)]; exact hH) (by rw [Int.mul_comm]; exact Int.mul_tdiv_cancel _ (by decide)) (i64_in _ (by omega) (by omega)) (i64_in _ (by omega) (by omega)) (by rw [i64_in _ (by omega) (by omega)]; omega) k50 ha
end Go.Proofs.Ytjcjecbffnadaab
