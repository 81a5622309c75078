/-
  What the statement of the other formats asks. Condition: the numbers fit their types.
-/
import Derived.Test.YtjcjecbffnadaabFp
namespace Go.Proofs.Ytjcjecbffnadaab
open Go.RowKit
noncomputable def body8 : Code := Try.f8.body.getD .skip
theorem size16_any (w : World) : Calls Try.prog 37 #[] w fun e w' => e = .returned (.agg #[.int .i64 10, .int .i64 31, .int .i64 15]) ∧ Below w.heap.size w w' := by
  go_enter Try.func37, Try.ntmps37
  go_wp2
  exact bodyPost_ret (v := .agg #[.int .i64 10, .int .i64 31, .int .i64 15]) (by simp [results, Try.results37, go_sem]) rfl ⟨rfl, (Below.refl _ _).alloc (Nat.le_refl _) _⟩
theorem sizeBr_any (w : World) : Calls Try.prog 38 #[] w fun e w' => e = .returned (.agg #[.int .i64 7, .int .i64 255, .int .i64 127]) ∧ Below w.heap.size w w' := by
  go_enter Try.func38, Try.ntmps38
  go_wp2
  exact bodyPost_ret (v := .agg #[.int .i64 7, .int .i64 255, .int .i64 127]) (by simp [results, Try.results38, go_sem]) rfl ⟨rfl, (Below.refl _ _).alloc (Nat.le_refl _) _⟩
set_option maxRecDepth 100000 in
set_option maxHeartbeats 2000000 in
theorem f8_a {Q : Ending → World → Prop} (b h H R : Nat) (n : Int) (w : World) (k37 : ∀ w, Calls Try.prog 37 #[] w fun e w' => e = .returned (.agg #[.int .i64 10, .int .i64 31, .int .i64 15]) ∧ Below w.heap.size w w') (k38 : ∀ w, Calls Try.prog 38 #[] w fun e w' => e = .returned (.agg #[.int .i64 7, .int .i64 255, .int .i64 127]) ∧ Below w.heap.size w w')
    (k36 : ∀ w, Calls Try.prog 36 #[.int .u64 (b : Int), .agg #[.int .i64 10, .int .i64 31, .int .i64 15]] w fun e w' => e = .returned (.int .u64 (H : Int)) ∧ Below w.heap.size w w') (k36b : ∀ w, Calls Try.prog 36 #[.int .u64 (b : Int), .agg #[.int .i64 7, .int .i64 255, .int .i64 127]] w fun e w' => e = .returned (.int .u64 (R : Int)) ∧ Below w.heap.size w w')
    (hK : Hid (∀ a w', Below w.heap.size w w' → At 85 [(0, .int .u64 (b : Int)), (1, .int .u16 (h : Int)), (2, .int .i64 n), (7, .float .f64 b), (8, .int .u64 (H : Int)), (9, .int .u64 (R : Int))] a → Code.wp Try.prog (sq 4 body8) (bodyPost Try.prog Try.f8 Q) a w')) :
    Calls Try.prog 8 #[.int .u64 (b : Int), .int .u16 (h : Int), .int .i64 n] w Q := by
  have k9 := awake_any
  have x10 := ext10
  go_enter Try.func8, Try.ntmps8
  change Code.wp _ (Code.seq (hd (sq 0 body8)) (Code.seq (hd (sq 1 body8)) (Code.seq (hd (sq 2 body8)) (Code.seq (hd (sq 3 body8)) (sq 4 body8))))) _ _ _
  generalize sq 4 body8 = REST at hK ⊢
  conv => arg 2; arg 1; whnf
  conv => arg 2; arg 2; arg 1; whnf
  conv => arg 2; arg 2; arg 2; arg 1; whnf
  conv => arg 2; arg 2; arg 2; arg 2; arg 1; whnf
  go_wp2_with (go_at_call 9; refine (k9 _).mono ?_)
  intro e1 w1 hq
  first | (obtain ⟨rfl, b1⟩ : _ ∧ _ := hq) | (subst hq; intro b1)
  go_wp2_with (go_at_call 37; refine (k37 _).mono ?_)
  intro e2 w2 hq
  first | (obtain ⟨rfl, b2⟩ : _ ∧ _ := hq) | (subst hq; intro b2)
  go_wp2_with (go_at_call 36; refine (k36 _).mono ?_)
  intro e3 w3 hq
  first | (obtain ⟨rfl, b3⟩ : _ ∧ _ := hq) | (subst hq; intro b3)
  go_wp2_with (go_at_call 38; refine (k38 _).mono ?_)
  intro e4 w4 hq
  first | (obtain ⟨rfl, b4⟩ : _ ∧ _ := hq) | (subst hq; intro b4)
  go_wp2_with (go_at_call 36; refine (k36b _).mono ?_)
  intro e5 w5 hq
  first | (obtain ⟨rfl, b5⟩ : _ ∧ _ := hq) | (subst hq; intro b5)
  have B1 : Hid (Below w.heap.size w w5) := b1.trans (((b2.trans (b3.mono b2.size)).trans ((b4.trans (b5.mono b4.size)).mono (Nat.le_trans b2.size b3.size))).mono b1.size)
  clear b1 b2 b3 b4 b5
  go_wp2
  exact hK.out _ _ B1.out ⟨rfl, rfl, rfl, rfl, rfl, rfl, rfl, rfl, trivial⟩
set_option maxRecDepth 100000 in
set_option maxHeartbeats 2000000 in
theorem f8_bN {Q : Exit → Act → World → Prop} (b h H R : Nat) (n : Int) (a : Act) (w : World) (hN : (FloatKind.f64.format.order b b != some .eq) = true) (hK : Hid (∀ a w', Below w.heap.size w w' → At 85 [(0, .int .u64 (b : Int)), (1, .int .u16 (h : Int)), (2, .int .i64 n), (7, .float .f64 b), (8, .int .u64 32256), (9, .int .u64 32704)] a → Code.wp Try.prog (sq 5 body8) Q a w')) (ha : At 85 [(0, .int .u64 (b : Int)), (1, .int .u16 (h : Int)), (2, .int .i64 n), (7, .float .f64 b), (8, .int .u64 (H : Int)), (9, .int .u64 (R : Int))] a) : Code.wp Try.prog (sq 4 body8) Q a w := by
  obtain ⟨f, rfl, h0, h1, h2, h7, h8, h9, -⟩ := ha.lit
  change Code.wp _ _ _ ⟨#[f 0, f 1, f 2, f 3, f 4, f 5, f 6, f 7, f 8, f 9, f 10, f 11, f 12, f 13, f 14, f 15, f 16, f 17, f 18, f 19, f 20, f 21, f 22, f 23, f 24, f 25, f 26, f 27, f 28, f 29, f 30, f 31, f 32, f 33, f 34, f 35, f 36, f 37, f 38, f 39, f 40, f 41, f 42, f 43, f 44, f 45, f 46, f 47, f 48, f 49, f 50, f 51, f 52, f 53, f 54, f 55, f 56, f 57, f 58, f 59, f 60, f 61, f 62, f 63, f 64, f 65, f 66, f 67, f 68, f 69, f 70, f 71, f 72, f 73, f 74, f 75, f 76, f 77, f 78, f 79, f 80, f 81, f 82, f 83, f 84], []⟩ _
  simp only at h0 h1 h2 h7 h8 h9
  simp only [h0, h1, h2, h7, h8, h9]
  clear h0 h1 h2 h7 h8 h9
  change Code.wp _ (Code.seq (hd (sq 4 body8)) (sq 5 body8)) _ _ _
  generalize sq 5 body8 = REST at hK ⊢
  conv => arg 2; arg 1; whnf
  go_wp2
  exact hK.out _ _ (Below.refl _ _) ⟨rfl, rfl, rfl, rfl, rfl, rfl, rfl, rfl, trivial⟩
set_option maxRecDepth 100000 in
set_option maxHeartbeats 2000000 in
theorem f8_bY {Q : Exit → Act → World → Prop} (b h H R : Nat) (n : Int) (a : Act) (w : World) (hN : (FloatKind.f64.format.order b b != some .eq) = false) (hK : Hid (∀ a w', Below w.heap.size w w' → At 85 [(0, .int .u64 (b : Int)), (1, .int .u16 (h : Int)), (2, .int .i64 n), (7, .float .f64 b), (8, .int .u64 (H : Int)), (9, .int .u64 (R : Int))] a → Code.wp Try.prog (sq 5 body8) Q a w')) (ha : At 85 [(0, .int .u64 (b : Int)), (1, .int .u16 (h : Int)), (2, .int .i64 n), (7, .float .f64 b), (8, .int .u64 (H : Int)), (9, .int .u64 (R : Int))] a) : Code.wp Try.prog (sq 4 body8) Q a w := by
  obtain ⟨f, rfl, h0, h1, h2, h7, h8, h9, -⟩ := ha.lit
  change Code.wp _ _ _ ⟨#[f 0, f 1, f 2, f 3, f 4, f 5, f 6, f 7, f 8, f 9, f 10, f 11, f 12, f 13, f 14, f 15, f 16, f 17, f 18, f 19, f 20, f 21, f 22, f 23, f 24, f 25, f 26, f 27, f 28, f 29, f 30, f 31, f 32, f 33, f 34, f 35, f 36, f 37, f 38, f 39, f 40, f 41, f 42, f 43, f 44, f 45, f 46, f 47, f 48, f 49, f 50, f 51, f 52, f 53, f 54, f 55, f 56, f 57, f 58, f 59, f 60, f 61, f 62, f 63, f 64, f 65, f 66, f 67, f 68, f 69, f 70, f 71, f 72, f 73, f 74, f 75, f 76, f 77, f 78, f 79, f 80, f 81, f 82, f 83, f 84], []⟩ _
  simp only at h0 h1 h2 h7 h8 h9
  simp only [h0, h1, h2, h7, h8, h9]
  clear h0 h1 h2 h7 h8 h9
  change Code.wp _ (Code.seq (hd (sq 4 body8)) (sq 5 body8)) _ _ _
  generalize sq 5 body8 = REST at hK ⊢
  conv => arg 2; arg 1; whnf
  go_wp2
  exact hK.out _ _ (Below.refl _ _) ⟨rfl, rfl, rfl, rfl, rfl, rfl, rfl, rfl, trivial⟩
set_option maxRecDepth 100000 in
set_option maxHeartbeats 2000000 in
theorem f8_c {Q : Exit → Act → World → Prop} (b h H R FH FB : Nat) (n : Int) (a : Act) (w : World) (hH : IntKind.u64.wrap (H : Int) = H) (hR : IntKind.u64.wrap (R : Int) = R) (hh : IntKind.u64.wrap (h : Int) = h) (k37 : ∀ w, Calls Try.prog 37 #[] w fun e w' => e = .returned (.agg #[.int .i64 10, .int .i64 31, .int .i64 15]) ∧ Below w.heap.size w w') (k38 : ∀ w, Calls Try.prog 38 #[] w fun e w' => e = .returned (.agg #[.int .i64 7, .int .i64 255, .int .i64 127]) ∧ Below w.heap.size w w')
    (k39 : ∀ w, Calls Try.prog 39 #[.float .f64 b] w fun e w' => e = .returned (.int .u16 (H : Int)) ∧ Below w.heap.size w w') (k40 : ∀ w, Calls Try.prog 40 #[.float .f64 b] w fun e w' => e = .returned (.int .u16 (R : Int)) ∧ Below w.heap.size w w')
    (k41 : ∀ w, Calls Try.prog 41 #[.int .u16 (h : Int)] w fun e w' => e = .returned (.float .f64 FH) ∧ Below w.heap.size w w') (k42 : ∀ w, Calls Try.prog 42 #[.int .u64 (h : Int), .agg #[.int .i64 10, .int .i64 31, .int .i64 15]] w fun e w' => e = .returned (.int .u64 (FH : Int)) ∧ Below w.heap.size w w') (k14 : ∀ w, Calls Try.prog 14 #[.float .f64 FH, .int .u64 (FH : Int)] w fun e w' => e = .returned (.bool true) ∧ Below w.heap.size w w')
    (k43 : ∀ w, Calls Try.prog 43 #[.int .u16 (h : Int)] w fun e w' => e = .returned (.float .f64 FB) ∧ Below w.heap.size w w') (k42b : ∀ w, Calls Try.prog 42 #[.int .u64 (h : Int), .agg #[.int .i64 7, .int .i64 255, .int .i64 127]] w fun e w' => e = .returned (.int .u64 (FB : Int)) ∧ Below w.heap.size w w') (k14b : ∀ w, Calls Try.prog 14 #[.float .f64 FB, .int .u64 (FB : Int)] w fun e w' => e = .returned (.bool true) ∧ Below w.heap.size w w')
    (hK : Hid (∀ a w', Below w.heap.size w w' → At 85 [(0, .int .u64 (b : Int)), (1, .int .u16 (h : Int)), (2, .int .i64 n), (7, .float .f64 b)] a → Code.wp Try.prog (sq 6 body8) Q a w')) (ha : At 85 [(0, .int .u64 (b : Int)), (1, .int .u16 (h : Int)), (2, .int .i64 n), (7, .float .f64 b), (8, .int .u64 (H : Int)), (9, .int .u64 (R : Int))] a) : Code.wp Try.prog (sq 5 body8) Q a w := by
  obtain ⟨f, rfl, h0, h1, h2, h7, h8, h9, -⟩ := ha.lit
  change Code.wp _ _ _ ⟨#[f 0, f 1, f 2, f 3, f 4, f 5, f 6, f 7, f 8, f 9, f 10, f 11, f 12, f 13, f 14, f 15, f 16, f 17, f 18, f 19, f 20, f 21, f 22, f 23, f 24, f 25, f 26, f 27, f 28, f 29, f 30, f 31, f 32, f 33, f 34, f 35, f 36, f 37, f 38, f 39, f 40, f 41, f 42, f 43, f 44, f 45, f 46, f 47, f 48, f 49, f 50, f 51, f 52, f 53, f 54, f 55, f 56, f 57, f 58, f 59, f 60, f 61, f 62, f 63, f 64, f 65, f 66, f 67, f 68, f 69, f 70, f 71, f 72, f 73, f 74, f 75, f 76, f 77, f 78, f 79, f 80, f 81, f 82, f 83, f 84], []⟩ _
  simp only at h0 h1 h2 h7 h8 h9
  simp only [h0, h1, h2, h7, h8, h9]
  clear h0 h1 h2 h7 h8 h9
  change Code.wp _ (Code.seq (hd (sq 5 body8)) (sq 6 body8)) _ _ _
  generalize sq 6 body8 = REST at hK ⊢
  conv => arg 2; arg 1; whnf
  go_wp2_with (go_at_call 39; refine (k39 _).mono ?_)
  intro e1 w1 hq
  first | (obtain ⟨rfl, b1⟩ : _ ∧ _ := hq) | (subst hq; intro b1)
  go_wp2_with (go_at_call 40; refine (k40 _).mono ?_)
  intro e2 w2 hq
  first | (obtain ⟨rfl, b2⟩ : _ ∧ _ := hq) | (subst hq; intro b2)
  go_wp2_with (go_at_call 41; refine (k41 _).mono ?_)
  intro e3 w3 hq
  first | (obtain ⟨rfl, b3⟩ : _ ∧ _ := hq) | (subst hq; intro b3)
  go_wp2_with (go_at_call 37; refine (k37 _).mono ?_)
  intro e4 w4 hq
  first | (obtain ⟨rfl, b4⟩ : _ ∧ _ := hq) | (subst hq; intro b4)
  go_wp2_with (go_at_call 42; refine (k42 _).mono ?_)
  intro e5 w5 hq
  first | (obtain ⟨rfl, b5⟩ : _ ∧ _ := hq) | (subst hq; intro b5)
  go_wp2_with (go_at_call 14; refine (k14 _).mono ?_)
  intro e6 w6 hq
  first | (obtain ⟨rfl, b6⟩ : _ ∧ _ := hq) | (subst hq; intro b6)
  go_wp2_with (go_at_call 43; refine (k43 _).mono ?_)
  intro e7 w7 hq
  first | (obtain ⟨rfl, b7⟩ : _ ∧ _ := hq) | (subst hq; intro b7)
  go_wp2_with (go_at_call 38; refine (k38 _).mono ?_)
  intro e8 w8 hq
  first | (obtain ⟨rfl, b8⟩ : _ ∧ _ := hq) | (subst hq; intro b8)
  go_wp2_with (go_at_call 42; refine (k42b _).mono ?_)
  intro e9 w9 hq
  first | (obtain ⟨rfl, b9⟩ : _ ∧ _ := hq) | (subst hq; intro b9)
  go_wp2_with (go_at_call 14; refine (k14b _).mono ?_)
  intro e10 w10 hq
  first | (obtain ⟨rfl, b10⟩ : _ ∧ _ := hq) | (subst hq; intro b10)
  have B3 := (b1.trans (b2.mono b1.size)).trans (b3.mono (Nat.le_trans b1.size b2.size))
  have B5 := (B3.trans (b4.mono B3.size)).trans (b5.mono (Nat.le_trans B3.size b4.size))
  have B7 := (B5.trans (b6.mono B5.size)).trans (b7.mono (Nat.le_trans B5.size b6.size))
  have B9 := (B7.trans (b8.mono B7.size)).trans (b9.mono (Nat.le_trans B7.size b8.size))
  have B1 : Hid (Below w.heap.size w w10) := B9.trans (b10.mono B9.size)
  clear b1 b2 b3 b4 b5 b6 b7 b8 b9 b10 B3 B5 B7 B9
  go_wp2
  exact hK.out _ _ B1.out ⟨rfl, rfl, rfl, rfl, rfl, rfl, trivial⟩
set_option maxRecDepth 100000 in
set_option maxHeartbeats 2000000 in
theorem f8_dW (b h : Nat) (n : Int) (a : Act) (w0 w : World) (B : Hid (Below w0.heap.size w0 w)) (hn : n < 2 ∨ 53 < n) (k44 : ∀ w, Calls Try.prog 44 #[.float .f64 b, .int .i64 n] w fun e w' => e = .returned (.tuple #[.float .f64 0, .int .i64 1]) ∧ Below w.heap.size w w') (ha : At 85 [(0, .int .u64 (b : Int)), (1, .int .u16 (h : Int)), (2, .int .i64 n), (7, .float .f64 b)] a) : Code.wp Try.prog (sq 6 body8) (bodyPost Try.prog Try.f8 fun r w' => r = .returned (.bool true) ∧ Below w0.heap.size w0 w') a w := by
  have x20 := ext20
  obtain ⟨f, rfl, h0, h1, h2, h7, -⟩ := ha.lit
  change Code.wp _ _ _ ⟨#[f 0, f 1, f 2, f 3, f 4, f 5, f 6, f 7, f 8, f 9, f 10, f 11, f 12, f 13, f 14, f 15, f 16, f 17, f 18, f 19, f 20, f 21, f 22, f 23, f 24, f 25, f 26, f 27, f 28, f 29, f 30, f 31, f 32, f 33, f 34, f 35, f 36, f 37, f 38, f 39, f 40, f 41, f 42, f 43, f 44, f 45, f 46, f 47, f 48, f 49, f 50, f 51, f 52, f 53, f 54, f 55, f 56, f 57, f 58, f 59, f 60, f 61, f 62, f 63, f 64, f 65, f 66, f 67, f 68, f 69, f 70, f 71, f 72, f 73, f 74, f 75, f 76, f 77, f 78, f 79, f 80, f 81, f 82, f 83, f 84], []⟩ _
  simp only at h0 h1 h2 h7
  simp only [h0, h1, h2, h7]
  clear h0 h1 h2 h7
  conv => arg 2; whnf
  rcases hn with hn | hn
  · skip
    go_wp2_with (go_at_call 44; refine (k44 _).mono ?_)
    intro e1 w1 hq
    first | (obtain ⟨rfl, b1⟩ : _ ∧ _ := hq) | (subst hq; intro b1)
    have B1 : Hid (Below w0.heap.size w0 w1) := B.out.trans (b1.mono B.out.size)
    clear b1
    go_wp2
    go_ret
    exact ⟨rfl, B1.out⟩
  · have hn2 : ¬ n < 2 := by omega
    go_wp2_with (go_at_call 44; refine (k44 _).mono ?_)
    intro e1 w1 hq
    first | (obtain ⟨rfl, b1⟩ : _ ∧ _ := hq) | (subst hq; intro b1)
    have B1 : Hid (Below w0.heap.size w0 w1) := B.out.trans (b1.mono B.out.size)
    clear b1
    go_wp2
    go_ret
    exact ⟨rfl, B1.out⟩
set_option maxRecDepth 100000 in
set_option maxHeartbeats 2000000 in
theorem f8_dR (b h V U : Nat) (n : Int) (a : Act) (w0 w : World) (B : Hid (Below w0.heap.size w0 w)) (hn1 : ¬ n < 2) (hn2 : ¬ 53 < n) (k44 : ∀ w, Calls Try.prog 44 #[.float .f64 b, .int .i64 n] w fun e w' => e = .returned (.tuple #[.float .f64 V, .int .i64 0]) ∧ Below w.heap.size w w') (k45 : ∀ w, Calls Try.prog 45 #[.int .u64 (b : Int), .int .i64 n] w fun e w' => e = .returned (.int .u64 (U : Int)) ∧ Below w.heap.size w w') (k14 : ∀ w, Calls Try.prog 14 #[.float .f64 V, .int .u64 (U : Int)] w fun e w' => e = .returned (.bool true) ∧ Below w.heap.size w w') (ha : At 85 [(0, .int .u64 (b : Int)), (1, .int .u16 (h : Int)), (2, .int .i64 n), (7, .float .f64 b)] a) : Code.wp Try.prog (sq 6 body8) (bodyPost Try.prog Try.f8 fun r w' => r = .returned (.bool true) ∧ Below w0.heap.size w0 w') a w := by
  obtain ⟨f, rfl, h0, h1, h2, h7, -⟩ := ha.lit
  change Code.wp _ _ _ ⟨#[f 0, f 1, f 2, f 3, f 4, f 5, f 6, f 7, f 8, f 9, f 10, f 11, f 12, f 13, f 14, f 15, f 16, f 17, f 18, f 19, f 20, f 21, f 22, f 23, f 24, f 25, f 26, f 27, f 28, f 29, f 30, f 31, f 32, f 33, f 34, f 35, f 36, f 37, f 38, f 39, f 40, f 41, f 42, f 43, f 44, f 45, f 46, f 47, f 48, f 49, f 50, f 51, f 52, f 53, f 54, f 55, f 56, f 57, f 58, f 59, f 60, f 61, f 62, f 63, f 64, f 65, f 66, f 67, f 68, f 69, f 70, f 71, f 72, f 73, f 74, f 75, f 76, f 77, f 78, f 79, f 80, f 81, f 82, f 83, f 84], []⟩ _
  simp only at h0 h1 h2 h7
  simp only [h0, h1, h2, h7]
  clear h0 h1 h2 h7
  conv => arg 2; whnf
  go_wp2_with (go_at_call 44; refine (k44 _).mono ?_)
  intro e1 w1 hq
  first | (obtain ⟨rfl, b1⟩ : _ ∧ _ := hq) | (subst hq; intro b1)
  go_wp2_with (go_at_call 45; refine (k45 _).mono ?_)
  intro e2 w2 hq
  first | (obtain ⟨rfl, b2⟩ : _ ∧ _ := hq) | (subst hq; intro b2)
  go_wp2_with (go_at_call 14; refine (k14 _).mono ?_)
  intro e3 w3 hq
  first | (obtain ⟨rfl, b3⟩ : _ ∧ _ := hq) | (subst hq; intro b3)
  have B1 : Hid (Below w0.heap.size w0 w3) := B.out.trans (((b1.trans (b2.mono b1.size)).trans (b3.mono (Nat.le_trans b1.size b2.size))).mono B.out.size)
  clear b1 b2 b3
  go_wp2
  go_ret
  exact ⟨rfl, B1.out⟩
theorem is_nan (V U : Nat) (hV : nan64 V = true) (hU : U < 18446744073709551616) (h4 : (pt 52 11 1023 U).kind = 4) (w : World) : Calls Try.prog 14 #[.float .f64 V, .int .u64 (U : Int)] w fun e w' => e = .returned (.bool true) ∧ Below w.heap.size w w' := by
  have key := is_by V U _ _ _ _ _ _ _ w (nan_order V) (k15l U hU)
  rw [if_pos h4, hV] at key
  exact key
set_option maxHeartbeats 1000000 in
theorem law_fm (b h : Nat) (n : Int) (w : World) (hb : b < 18446744073709551616) (hh : h < 65536) : Calls Try.prog 8 #[.int .u64 (b : Int), .int .u16 (h : Int), .int .i64 n] w fun e w' => e = .returned (.bool true) ∧ Below w.heap.size w w' := by
  have sm := pt_small lay64 b
  have hH : rndB 10 5 15 (pt 52 11 1023 b) < 65536 := rndB_lt lay16 _ sm.1
  have hR : rndB 7 8 127 (pt 52 11 1023 b) < 65536 := rndB_lt layBr _ sm.1
  have hFH := rndB_lt lay64 (pt 10 5 15 h) (pt_small lay16 h).1
  have hFB := rndB_lt lay64 (pt 7 8 127 h) (pt_small layBr h).1
  refine f8_a b h _ _ n w size16_any sizeBr_any (fun w => into_any lay16 b w hb) (fun w => into_any layBr b w hb) fun a w1 B1 ha => ?_
  have fin : ∀ a w2, Below w.heap.size w w2 → At 85 [(0, .int .u64 (b : Int)), (1, .int .u16 (h : Int)), (2, .int .i64 n), (7, .float .f64 b)] a → Code.wp Try.prog (sq 6 body8) (bodyPost Try.prog Try.f8 fun r w' => r = .returned (.bool true) ∧ Below w.heap.size w w') a w2 := fun a w2 B2 ha => by
    by_cases hn : n < 2 ∨ 53 < n
    · exact f8_dW b h n a w w2 B2 hn (fun w => bits_wrong b n w hn) ha
    · obtain ⟨m, rfl⟩ : ∃ m : Nat, n = m := ⟨n.toNat, by omega⟩
      have h1 : 2 ≤ m := by omega
      have h2 : m ≤ 53 := by omega
      have k44 := fun w => bits_any m b w hb h1 h2
      have k45 := fun w => rbits_any m b w hb h1 h2
      by_cases h4 : (pt 52 11 1023 b).kind = 4
      · rw [if_pos h4] at k45
        have hnan : nan64 (bitV m b) = true := by
          have e : bitV m b = 9221120237041090560 := by
            unfold bitV rndB
            rw [if_pos h4, Nat.add_mul, Nat.mul_assoc, ← Nat.pow_add, ← Nat.pow_add, show m - 1 + (53 - m) = 52 by omega, show m - 1 - 1 + (53 - m) = 51 by omega]
          rw [e, nan64_is (by decide)]
          decide
        exact f8_dR b h _ _ _ a w w2 B2 (by omega) (by omega) k44 k45 (fun w => is_nan _ _ hnan hb h4 w) ha
      · rw [if_neg h4] at k45
        exact f8_dR b h _ _ _ a w w2 B2 (by omega) (by omega) k44 k45 (fun w => is_same _ (bitV_lt h1 h2 b) w) ha
  have go : ∀ a w2, Below w.heap.size w w2 → At 85 [(0, .int .u64 (b : Int)), (1, .int .u16 (h : Int)), (2, .int .i64 n), (7, .float .f64 b), (8, .int .u64 (rndB 10 5 15 (pt 52 11 1023 b) : Nat)), (9, .int .u64 (rndB 7 8 127 (pt 52 11 1023 b) : Nat))] a → Code.wp Try.prog (sq 5 body8) (bodyPost Try.prog Try.f8 fun r w' => r = .returned (.bool true) ∧ Below w.heap.size w w') a w2 := fun a w2 B2 ha =>
    f8_c b h _ _ _ _ n a w2 (u64_small _ (by omega)) (u64_small _ (by omega)) (u64_small _ (by omega)) size16_any sizeBr_any (fun w => to_half b w hb) (fun w => to_brain b w hb) (fun w => from_half h w hh) (fun w => from_any lay16 h w (by omega)) (fun w => is_same _ hFH w) (fun w => from_brain h w hh) (fun w => from_any layBr h w (by omega)) (fun w => is_same _ hFB w) (fun a w3 B3 ha => fin a w3 (B2.trans (B3.mono B2.size)) ha) ha
  obtain ⟨hk, _⟩ := kind64 b hb
  cases hn : nan64 b
  · exact f8_bY b h _ _ n a w1 (by rw [nan_order]; exact hn) (fun a w2 B2 ha => go a w2 (B1.trans (B2.mono B1.size)) ha) ha
  · rw [hn, if_pos rfl] at hk
    have e1 : rndB 10 5 15 (pt 52 11 1023 b) = 32256 := by unfold rndB; rw [if_pos hk]
    have e2 : rndB 7 8 127 (pt 52 11 1023 b) = 32704 := by unfold rndB; rw [if_pos hk]
    refine f8_bN b h _ _ n a w1 (by rw [nan_order]; exact hn) (fun a w2 B2 ha => go a w2 (B1.trans (B2.mono B1.size)) ?_) ha
    rw [e1, e2]
    exact ha
end Go.Proofs.Ytjcjecbffnadaab
