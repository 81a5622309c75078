/-
  The statement of what rises, piece by piece.
-/
import Derived.Test.YtjcjecbffnadaabWb
import Derived.Laws.FloatArith
namespace Go.Proofs.Ytjcjecbffnadaab
open Go.RowKit
noncomputable def body5 : Code := Try.f5.body.getD .skip
set_option maxRecDepth 100000 in
set_option maxHeartbeats 2000000 in
theorem inf_any (w : World) : Calls Try.prog 22 #[.int .i64 1] w fun e w' => e = .returned (.float .f64 9218868437227405312) ∧ Below w.heap.size w w' := by
  have x10 := ext10
  go_enter Try.func22, Try.ntmps22
  go_wp2
  go_ret
  exact ⟨rfl, Below.refl _ _⟩
set_option maxRecDepth 100000 in
set_option maxHeartbeats 2000000 in
theorem abs_by (b A : Nat) (w : World) (hA : bits .andNot .u64 (b : Int) 9223372036854775808 = (A : Int)) : Calls Try.prog 25 #[.float .f64 b] w fun e w' => e = .returned (.float .f64 A) ∧ Below w.heap.size w w' := by
  have x10 := ext10
  have x16 := ext20
  go_enter Try.func25, Try.ntmps25
  go_wp2
  go_ret
  exact ⟨by simp, Below.refl _ _⟩
set_option maxRecDepth 100000 in
set_option maxHeartbeats 2000000 in
theorem sb_by (b : Nat) (W : Int) (sg : Bool) (w : World) (hW : IntKind.i64.wrap (b : Int) = W) (hs : decide (W < 0) = sg) : Calls Try.prog 26 #[.float .f64 b] w fun e w' => e = .returned (.bool sg) ∧ Below w.heap.size w w' := by
  subst hs
  have x16 := ext20
  go_enter Try.func26, Try.ntmps26
  go_wp2
  go_ret
  exact ⟨rfl, Below.refl _ _⟩
set_option maxRecDepth 100000 in
set_option maxHeartbeats 2000000 in
theorem ri_a {Q : Ending → World → Prop} (a0 b0 : Nat) (w : World) (hK : Hid (∀ a w', Below w.heap.size w w' → At 129 [(5, .float .f64 a0), (6, .float .f64 b0)] a → Code.wp Try.prog (sq 3 body5) (bodyPost Try.prog Try.f5 Q) a w')) : Calls Try.prog 5 #[.int .u64 (a0 : Int), .int .u64 (b0 : Int)] w Q := by
  have k9 := awake_any
  have x10 := ext10
  go_enter Try.func5, Try.ntmps5
  change Code.wp _ (Code.seq (hd (sq 0 body5)) (Code.seq (hd (sq 1 body5)) (Code.seq (hd (sq 2 body5)) (sq 3 body5)))) _ _ _
  generalize sq 3 body5 = REST at hK ⊢
  conv => arg 2; arg 1; whnf
  conv => arg 2; arg 2; arg 1; whnf
  conv => arg 2; arg 2; arg 2; arg 1; whnf
  go_wp2_with (go_at_call 9; refine (k9 _).mono ?_)
  intro e1 w1 hq
  first | (obtain ⟨rfl, b1⟩ : _ ∧ _ := hq) | (subst hq; intro b1)
  have B1 := show Hid _ from b1
  clear b1
  go_wp2
  exact hK.out _ _ B1.out ⟨rfl, rfl, rfl, rfl, trivial⟩
set_option maxRecDepth 100000 in
set_option maxHeartbeats 2000000 in
theorem ri_n1 (a0 b0 u : Nat) (a : Act) (w0 w : World) (B : Hid (Below w0.heap.size w0 w)) (nx : (FloatKind.f64.format.order a0 a0 != some .eq) = true) (nu : (FloatKind.f64.format.order u u != some .eq) = true) (k21 : ∀ w, Calls Try.prog 21 #[.float .f64 a0] w fun e w' => e = .returned (.float .f64 u) ∧ Below w.heap.size w w') (ha : At 129 [(5, .float .f64 a0), (6, .float .f64 b0)] a) : Code.wp Try.prog (sq 3 body5) (bodyPost Try.prog Try.f5 fun e w' => e = .returned (.bool true) ∧ Below w0.heap.size w0 w') a w := by
  obtain ⟨f, rfl, h5, h6, -⟩ := ha.lit
  change Code.wp _ _ _ ⟨#[f 0, f 1, f 2, f 3, f 4, f 5, f 6, f 7, f 8, f 9, f 10, f 11, f 12, f 13, f 14, f 15, f 16, f 17, f 18, f 19, f 20, f 21, f 22, f 23, f 24, f 25, f 26, f 27, f 28, f 29, f 30, f 31, f 32, f 33, f 34, f 35, f 36, f 37, f 38, f 39, f 40, f 41, f 42, f 43, f 44, f 45, f 46, f 47, f 48, f 49, f 50, f 51, f 52, f 53, f 54, f 55, f 56, f 57, f 58, f 59, f 60, f 61, f 62, f 63, f 64, f 65, f 66, f 67, f 68, f 69, f 70, f 71, f 72, f 73, f 74, f 75, f 76, f 77, f 78, f 79, f 80, f 81, f 82, f 83, f 84, f 85, f 86, f 87, f 88, f 89, f 90, f 91, f 92, f 93, f 94, f 95, f 96, f 97, f 98, f 99, f 100, f 101, f 102, f 103, f 104, f 105, f 106, f 107, f 108, f 109, f 110, f 111, f 112, f 113, f 114, f 115, f 116, f 117, f 118, f 119, f 120, f 121, f 122, f 123, f 124, f 125, f 126, f 127, f 128], []⟩ _
  simp only at h5 h6
  simp only [h5, h6]
  clear h5 h6
  conv => arg 2; whnf
  go_wp2_with (go_at_call 21; refine (k21 _).mono ?_)
  intro e1 w1 hq
  first | (obtain ⟨rfl, b1⟩ : _ ∧ _ := hq) | (subst hq; intro b1)
  go_wp2_with (go_at_call 21; refine (k21 _).mono ?_)
  intro e2 w2 hq
  first | (obtain ⟨rfl, b2⟩ : _ ∧ _ := hq) | (subst hq; intro b2)
  have B1 : Hid (Below w0.heap.size w0 w1) := B.out.trans (b1.mono B.out.size)
  have B2 : Hid (Below w0.heap.size w0 w2) := B1.out.trans (b2.mono B1.out.size)
  clear b1 b2
  go_wp2
  go_ret
  exact ⟨by simp, B2.out⟩
set_option maxRecDepth 100000 in
set_option maxHeartbeats 2000000 in
theorem ri_n2 (a0 b0 u : Nat) (a : Act) (w0 w : World) (B : Hid (Below w0.heap.size w0 w)) (nx : (FloatKind.f64.format.order a0 a0 != some .eq) = false) (ex : (FloatKind.f64.format.order a0 a0 == some .eq) = true) (ny : (FloatKind.f64.format.order b0 b0 != some .eq) = true) (nu : (FloatKind.f64.format.order u u != some .eq) = false) (k21 : ∀ w, Calls Try.prog 21 #[.float .f64 a0] w fun e w' => e = .returned (.float .f64 u) ∧ Below w.heap.size w w') (ha : At 129 [(5, .float .f64 a0), (6, .float .f64 b0)] a) : Code.wp Try.prog (sq 3 body5) (bodyPost Try.prog Try.f5 fun e w' => e = .returned (.bool true) ∧ Below w0.heap.size w0 w') a w := by
  obtain ⟨f, rfl, h5, h6, -⟩ := ha.lit
  change Code.wp _ _ _ ⟨#[f 0, f 1, f 2, f 3, f 4, f 5, f 6, f 7, f 8, f 9, f 10, f 11, f 12, f 13, f 14, f 15, f 16, f 17, f 18, f 19, f 20, f 21, f 22, f 23, f 24, f 25, f 26, f 27, f 28, f 29, f 30, f 31, f 32, f 33, f 34, f 35, f 36, f 37, f 38, f 39, f 40, f 41, f 42, f 43, f 44, f 45, f 46, f 47, f 48, f 49, f 50, f 51, f 52, f 53, f 54, f 55, f 56, f 57, f 58, f 59, f 60, f 61, f 62, f 63, f 64, f 65, f 66, f 67, f 68, f 69, f 70, f 71, f 72, f 73, f 74, f 75, f 76, f 77, f 78, f 79, f 80, f 81, f 82, f 83, f 84, f 85, f 86, f 87, f 88, f 89, f 90, f 91, f 92, f 93, f 94, f 95, f 96, f 97, f 98, f 99, f 100, f 101, f 102, f 103, f 104, f 105, f 106, f 107, f 108, f 109, f 110, f 111, f 112, f 113, f 114, f 115, f 116, f 117, f 118, f 119, f 120, f 121, f 122, f 123, f 124, f 125, f 126, f 127, f 128], []⟩ _
  simp only at h5 h6
  simp only [h5, h6]
  clear h5 h6
  conv => arg 2; whnf
  go_wp2_with (go_at_call 21; refine (k21 _).mono ?_)
  intro e1 w1 hq
  first | (obtain ⟨rfl, b1⟩ : _ ∧ _ := hq) | (subst hq; intro b1)
  go_wp2_with (go_at_call 21; refine (k21 _).mono ?_)
  intro e2 w2 hq
  first | (obtain ⟨rfl, b2⟩ : _ ∧ _ := hq) | (subst hq; intro b2)
  have B1 : Hid (Below w0.heap.size w0 w1) := B.out.trans (b1.mono B.out.size)
  have B2 : Hid (Below w0.heap.size w0 w2) := B1.out.trans (b2.mono B1.out.size)
  clear b1 b2
  go_wp2
  go_ret
  exact ⟨by simp, B2.out⟩
set_option maxRecDepth 100000 in
set_option maxHeartbeats 2000000 in
theorem ri_b {Q : Exit → Act → World → Prop} (a0 b0 : Nat) (a : Act) (w : World) (nx : (FloatKind.f64.format.order a0 a0 != some .eq) = false) (ny : (FloatKind.f64.format.order b0 b0 != some .eq) = false) (hK : Hid (∀ a w', Below w.heap.size w w' → At 129 [(5, .float .f64 a0), (6, .float .f64 b0), (7, .float .f64 9218868437227405312)] a → Code.wp Try.prog (sq 5 body5) Q a w')) (ha : At 129 [(5, .float .f64 a0), (6, .float .f64 b0)] a) : Code.wp Try.prog (sq 3 body5) Q a w := by
  have k22 := inf_any
  obtain ⟨f, rfl, h5, h6, -⟩ := ha.lit
  change Code.wp _ _ _ ⟨#[f 0, f 1, f 2, f 3, f 4, f 5, f 6, f 7, f 8, f 9, f 10, f 11, f 12, f 13, f 14, f 15, f 16, f 17, f 18, f 19, f 20, f 21, f 22, f 23, f 24, f 25, f 26, f 27, f 28, f 29, f 30, f 31, f 32, f 33, f 34, f 35, f 36, f 37, f 38, f 39, f 40, f 41, f 42, f 43, f 44, f 45, f 46, f 47, f 48, f 49, f 50, f 51, f 52, f 53, f 54, f 55, f 56, f 57, f 58, f 59, f 60, f 61, f 62, f 63, f 64, f 65, f 66, f 67, f 68, f 69, f 70, f 71, f 72, f 73, f 74, f 75, f 76, f 77, f 78, f 79, f 80, f 81, f 82, f 83, f 84, f 85, f 86, f 87, f 88, f 89, f 90, f 91, f 92, f 93, f 94, f 95, f 96, f 97, f 98, f 99, f 100, f 101, f 102, f 103, f 104, f 105, f 106, f 107, f 108, f 109, f 110, f 111, f 112, f 113, f 114, f 115, f 116, f 117, f 118, f 119, f 120, f 121, f 122, f 123, f 124, f 125, f 126, f 127, f 128], []⟩ _
  simp only at h5 h6
  simp only [h5, h6]
  clear h5 h6
  change Code.wp _ (Code.seq (hd (sq 3 body5)) (Code.seq (hd (sq 4 body5)) (sq 5 body5))) _ _ _
  generalize sq 5 body5 = REST at hK ⊢
  conv => arg 2; arg 1; whnf
  conv => arg 2; arg 2; arg 1; whnf
  go_wp2_with (go_at_call 22; refine (k22 _).mono ?_)
  intro e1 w1 hq
  first | (obtain ⟨rfl, b1⟩ : _ ∧ _ := hq) | (subst hq; intro b1)
  have B1 := show Hid _ from b1
  clear b1
  go_wp2
  exact hK.out _ _ B1.out ⟨rfl, rfl, rfl, rfl, rfl, trivial⟩
set_option maxRecDepth 100000 in
set_option maxHeartbeats 2000000 in
theorem ri_c0 {Q : Exit → Act → World → Prop} (a0 b0 u : Nat) (a : Act) (w : World) (k21 : ∀ w, Calls Try.prog 21 #[.float .f64 a0] w fun e w' => e = .returned (.float .f64 u) ∧ Below w.heap.size w w') (h : (FloatKind.f64.format.order a0 9218868437227405312 == some .lt) = false) (hK : Hid (∀ a w', Below w.heap.size w w' → At 129 [(5, .float .f64 a0), (6, .float .f64 b0), (7, .float .f64 9218868437227405312)] a → Code.wp Try.prog (sq 6 body5) Q a w')) (ha : At 129 [(5, .float .f64 a0), (6, .float .f64 b0), (7, .float .f64 9218868437227405312)] a) : Code.wp Try.prog (sq 5 body5) Q a w := by
  obtain ⟨f, rfl, h5, h6, h7, -⟩ := ha.lit
  change Code.wp _ _ _ ⟨#[f 0, f 1, f 2, f 3, f 4, f 5, f 6, f 7, f 8, f 9, f 10, f 11, f 12, f 13, f 14, f 15, f 16, f 17, f 18, f 19, f 20, f 21, f 22, f 23, f 24, f 25, f 26, f 27, f 28, f 29, f 30, f 31, f 32, f 33, f 34, f 35, f 36, f 37, f 38, f 39, f 40, f 41, f 42, f 43, f 44, f 45, f 46, f 47, f 48, f 49, f 50, f 51, f 52, f 53, f 54, f 55, f 56, f 57, f 58, f 59, f 60, f 61, f 62, f 63, f 64, f 65, f 66, f 67, f 68, f 69, f 70, f 71, f 72, f 73, f 74, f 75, f 76, f 77, f 78, f 79, f 80, f 81, f 82, f 83, f 84, f 85, f 86, f 87, f 88, f 89, f 90, f 91, f 92, f 93, f 94, f 95, f 96, f 97, f 98, f 99, f 100, f 101, f 102, f 103, f 104, f 105, f 106, f 107, f 108, f 109, f 110, f 111, f 112, f 113, f 114, f 115, f 116, f 117, f 118, f 119, f 120, f 121, f 122, f 123, f 124, f 125, f 126, f 127, f 128], []⟩ _
  simp only at h5 h6 h7
  simp only [h5, h6, h7]
  clear h5 h6 h7
  change Code.wp _ (Code.seq (hd (sq 5 body5)) (sq 6 body5)) _ _ _
  generalize sq 6 body5 = REST at hK ⊢
  conv => arg 2; arg 1; whnf
  go_wp2_with (go_at_call 21; refine (k21 _).mono ?_)
  intro e1 w1 hq
  first | (obtain ⟨rfl, b1⟩ : _ ∧ _ := hq) | (subst hq; intro b1)
  have B1 := show Hid _ from b1
  clear b1
  go_wp2
  exact hK.out _ _ B1.out ⟨rfl, rfl, rfl, rfl, rfl, trivial⟩
set_option maxRecDepth 100000 in
set_option maxHeartbeats 2000000 in
theorem ri_c1 {Q : Exit → Act → World → Prop} (a0 b0 u d : Nat) (a : Act) (w : World) (k21 : ∀ w, Calls Try.prog 21 #[.float .f64 a0] w fun e w' => e = .returned (.float .f64 u) ∧ Below w.heap.size w w') (k23 : ∀ w, Calls Try.prog 23 #[.float .f64 u] w fun e w' => e = .returned (.float .f64 d) ∧ Below w.heap.size w w') (h : (FloatKind.f64.format.order a0 9218868437227405312 == some .lt) = true) (h1 : (FloatKind.f64.format.order u a0 == some .lt) = false) (h2 : (FloatKind.f64.format.order u a0 == some .eq) = false) (hd2 : (FloatKind.f64.format.order d a0 != some .eq) = false) (h3 : (FloatKind.f64.format.order b0 a0 == some .gt) = false) (hK : Hid (∀ a w', Below w.heap.size w w' → At 129 [(5, .float .f64 a0), (6, .float .f64 b0), (7, .float .f64 9218868437227405312)] a → Code.wp Try.prog (sq 6 body5) Q a w')) (ha : At 129 [(5, .float .f64 a0), (6, .float .f64 b0), (7, .float .f64 9218868437227405312)] a) : Code.wp Try.prog (sq 5 body5) Q a w := by
  obtain ⟨f, rfl, h5, h6, h7, -⟩ := ha.lit
  change Code.wp _ _ _ ⟨#[f 0, f 1, f 2, f 3, f 4, f 5, f 6, f 7, f 8, f 9, f 10, f 11, f 12, f 13, f 14, f 15, f 16, f 17, f 18, f 19, f 20, f 21, f 22, f 23, f 24, f 25, f 26, f 27, f 28, f 29, f 30, f 31, f 32, f 33, f 34, f 35, f 36, f 37, f 38, f 39, f 40, f 41, f 42, f 43, f 44, f 45, f 46, f 47, f 48, f 49, f 50, f 51, f 52, f 53, f 54, f 55, f 56, f 57, f 58, f 59, f 60, f 61, f 62, f 63, f 64, f 65, f 66, f 67, f 68, f 69, f 70, f 71, f 72, f 73, f 74, f 75, f 76, f 77, f 78, f 79, f 80, f 81, f 82, f 83, f 84, f 85, f 86, f 87, f 88, f 89, f 90, f 91, f 92, f 93, f 94, f 95, f 96, f 97, f 98, f 99, f 100, f 101, f 102, f 103, f 104, f 105, f 106, f 107, f 108, f 109, f 110, f 111, f 112, f 113, f 114, f 115, f 116, f 117, f 118, f 119, f 120, f 121, f 122, f 123, f 124, f 125, f 126, f 127, f 128], []⟩ _
  simp only at h5 h6 h7
  simp only [h5, h6, h7]
  clear h5 h6 h7
  change Code.wp _ (Code.seq (hd (sq 5 body5)) (sq 6 body5)) _ _ _
  generalize sq 6 body5 = REST at hK ⊢
  conv => arg 2; arg 1; whnf
  go_wp2_with (go_at_call 21; refine (k21 _).mono ?_)
  intro e1 w1 hq
  first | (obtain ⟨rfl, b1⟩ : _ ∧ _ := hq) | (subst hq; intro b1)
  go_wp2_with (go_at_call 23; refine (k23 _).mono ?_)
  intro e2 w2 hq
  first | (obtain ⟨rfl, b2⟩ : _ ∧ _ := hq) | (subst hq; intro b2)
  have B2 : Hid (Below w.heap.size w w2) := b1.trans (b2.mono b1.size)
  clear b1 b2
  go_wp2
  exact hK.out _ _ B2.out ⟨rfl, rfl, rfl, rfl, rfl, trivial⟩
set_option maxRecDepth 100000 in
set_option maxHeartbeats 2000000 in
theorem ri_c2 {Q : Exit → Act → World → Prop} (a0 b0 u d : Nat) (a : Act) (w : World) (k21 : ∀ w, Calls Try.prog 21 #[.float .f64 a0] w fun e w' => e = .returned (.float .f64 u) ∧ Below w.heap.size w w') (k23 : ∀ w, Calls Try.prog 23 #[.float .f64 u] w fun e w' => e = .returned (.float .f64 d) ∧ Below w.heap.size w w') (h : (FloatKind.f64.format.order a0 9218868437227405312 == some .lt) = true) (h1 : (FloatKind.f64.format.order u a0 == some .lt) = false) (h2 : (FloatKind.f64.format.order u a0 == some .eq) = false) (hd2 : (FloatKind.f64.format.order d a0 != some .eq) = false) (h3 : (FloatKind.f64.format.order b0 a0 == some .gt) = true) (h4 : (FloatKind.f64.format.order b0 u == some .lt) = false) (hK : Hid (∀ a w', Below w.heap.size w w' → At 129 [(5, .float .f64 a0), (6, .float .f64 b0), (7, .float .f64 9218868437227405312)] a → Code.wp Try.prog (sq 6 body5) Q a w')) (ha : At 129 [(5, .float .f64 a0), (6, .float .f64 b0), (7, .float .f64 9218868437227405312)] a) : Code.wp Try.prog (sq 5 body5) Q a w := by
  obtain ⟨f, rfl, h5, h6, h7, -⟩ := ha.lit
  change Code.wp _ _ _ ⟨#[f 0, f 1, f 2, f 3, f 4, f 5, f 6, f 7, f 8, f 9, f 10, f 11, f 12, f 13, f 14, f 15, f 16, f 17, f 18, f 19, f 20, f 21, f 22, f 23, f 24, f 25, f 26, f 27, f 28, f 29, f 30, f 31, f 32, f 33, f 34, f 35, f 36, f 37, f 38, f 39, f 40, f 41, f 42, f 43, f 44, f 45, f 46, f 47, f 48, f 49, f 50, f 51, f 52, f 53, f 54, f 55, f 56, f 57, f 58, f 59, f 60, f 61, f 62, f 63, f 64, f 65, f 66, f 67, f 68, f 69, f 70, f 71, f 72, f 73, f 74, f 75, f 76, f 77, f 78, f 79, f 80, f 81, f 82, f 83, f 84, f 85, f 86, f 87, f 88, f 89, f 90, f 91, f 92, f 93, f 94, f 95, f 96, f 97, f 98, f 99, f 100, f 101, f 102, f 103, f 104, f 105, f 106, f 107, f 108, f 109, f 110, f 111, f 112, f 113, f 114, f 115, f 116, f 117, f 118, f 119, f 120, f 121, f 122, f 123, f 124, f 125, f 126, f 127, f 128], []⟩ _
  simp only at h5 h6 h7
  simp only [h5, h6, h7]
  clear h5 h6 h7
  change Code.wp _ (Code.seq (hd (sq 5 body5)) (sq 6 body5)) _ _ _
  generalize sq 6 body5 = REST at hK ⊢
  conv => arg 2; arg 1; whnf
  go_wp2_with (go_at_call 21; refine (k21 _).mono ?_)
  intro e1 w1 hq
  first | (obtain ⟨rfl, b1⟩ : _ ∧ _ := hq) | (subst hq; intro b1)
  go_wp2_with (go_at_call 23; refine (k23 _).mono ?_)
  intro e2 w2 hq
  first | (obtain ⟨rfl, b2⟩ : _ ∧ _ := hq) | (subst hq; intro b2)
  have B2 : Hid (Below w.heap.size w w2) := b1.trans (b2.mono b1.size)
  clear b1 b2
  go_wp2
  exact hK.out _ _ B2.out ⟨rfl, rfl, rfl, rfl, rfl, trivial⟩
set_option maxRecDepth 100000 in
set_option maxHeartbeats 2000000 in
theorem ri_d0 {Q : Exit → Act → World → Prop} (a0 b0 : Nat) (a : Act) (w : World) (h1 : (FloatKind.f64.format.order a0 b0 == some .lt) = false) (h2 : (FloatKind.f64.format.order a0 b0 == some .eq) = false) (hK : Hid (∀ a w', Below w.heap.size w w' → At 129 [(5, .float .f64 a0), (6, .float .f64 b0), (7, .float .f64 9218868437227405312)] a → Code.wp Try.prog (sq 7 body5) Q a w')) (ha : At 129 [(5, .float .f64 a0), (6, .float .f64 b0), (7, .float .f64 9218868437227405312)] a) : Code.wp Try.prog (sq 6 body5) Q a w := by
  obtain ⟨f, rfl, h5, h6, h7, -⟩ := ha.lit
  change Code.wp _ _ _ ⟨#[f 0, f 1, f 2, f 3, f 4, f 5, f 6, f 7, f 8, f 9, f 10, f 11, f 12, f 13, f 14, f 15, f 16, f 17, f 18, f 19, f 20, f 21, f 22, f 23, f 24, f 25, f 26, f 27, f 28, f 29, f 30, f 31, f 32, f 33, f 34, f 35, f 36, f 37, f 38, f 39, f 40, f 41, f 42, f 43, f 44, f 45, f 46, f 47, f 48, f 49, f 50, f 51, f 52, f 53, f 54, f 55, f 56, f 57, f 58, f 59, f 60, f 61, f 62, f 63, f 64, f 65, f 66, f 67, f 68, f 69, f 70, f 71, f 72, f 73, f 74, f 75, f 76, f 77, f 78, f 79, f 80, f 81, f 82, f 83, f 84, f 85, f 86, f 87, f 88, f 89, f 90, f 91, f 92, f 93, f 94, f 95, f 96, f 97, f 98, f 99, f 100, f 101, f 102, f 103, f 104, f 105, f 106, f 107, f 108, f 109, f 110, f 111, f 112, f 113, f 114, f 115, f 116, f 117, f 118, f 119, f 120, f 121, f 122, f 123, f 124, f 125, f 126, f 127, f 128], []⟩ _
  simp only at h5 h6 h7
  simp only [h5, h6, h7]
  clear h5 h6 h7
  change Code.wp _ (Code.seq (hd (sq 6 body5)) (sq 7 body5)) _ _ _
  generalize sq 7 body5 = REST at hK ⊢
  conv => arg 2; arg 1; whnf
  go_wp2
  exact hK.out _ _ (Below.refl _ _) ⟨rfl, rfl, rfl, rfl, rfl, trivial⟩
set_option maxRecDepth 100000 in
set_option maxHeartbeats 2000000 in
theorem ri_d1 {Q : Exit → Act → World → Prop} (a0 b0 A C : Nat) (a : Act) (w : World) (k24 : ∀ w, Calls Try.prog 24 #[.float .f64 a0] w fun e w' => e = .returned (.float .f32 A) ∧ Below w.heap.size w w') (k24b : ∀ w, Calls Try.prog 24 #[.float .f64 b0] w fun e w' => e = .returned (.float .f32 C) ∧ Below w.heap.size w w') (h1 : (FloatKind.f64.format.order a0 b0 == some .lt) = true) (h3 : (FloatKind.f32.format.order A C == some .gt) = false) (hK : Hid (∀ a w', Below w.heap.size w w' → At 129 [(5, .float .f64 a0), (6, .float .f64 b0), (7, .float .f64 9218868437227405312)] a → Code.wp Try.prog (sq 7 body5) Q a w')) (ha : At 129 [(5, .float .f64 a0), (6, .float .f64 b0), (7, .float .f64 9218868437227405312)] a) : Code.wp Try.prog (sq 6 body5) Q a w := by
  obtain ⟨f, rfl, h5, h6, h7, -⟩ := ha.lit
  change Code.wp _ _ _ ⟨#[f 0, f 1, f 2, f 3, f 4, f 5, f 6, f 7, f 8, f 9, f 10, f 11, f 12, f 13, f 14, f 15, f 16, f 17, f 18, f 19, f 20, f 21, f 22, f 23, f 24, f 25, f 26, f 27, f 28, f 29, f 30, f 31, f 32, f 33, f 34, f 35, f 36, f 37, f 38, f 39, f 40, f 41, f 42, f 43, f 44, f 45, f 46, f 47, f 48, f 49, f 50, f 51, f 52, f 53, f 54, f 55, f 56, f 57, f 58, f 59, f 60, f 61, f 62, f 63, f 64, f 65, f 66, f 67, f 68, f 69, f 70, f 71, f 72, f 73, f 74, f 75, f 76, f 77, f 78, f 79, f 80, f 81, f 82, f 83, f 84, f 85, f 86, f 87, f 88, f 89, f 90, f 91, f 92, f 93, f 94, f 95, f 96, f 97, f 98, f 99, f 100, f 101, f 102, f 103, f 104, f 105, f 106, f 107, f 108, f 109, f 110, f 111, f 112, f 113, f 114, f 115, f 116, f 117, f 118, f 119, f 120, f 121, f 122, f 123, f 124, f 125, f 126, f 127, f 128], []⟩ _
  simp only at h5 h6 h7
  simp only [h5, h6, h7]
  clear h5 h6 h7
  change Code.wp _ (Code.seq (hd (sq 6 body5)) (sq 7 body5)) _ _ _
  generalize sq 7 body5 = REST at hK ⊢
  conv => arg 2; arg 1; whnf
  go_wp2_with (go_at_call 24; refine (k24 _).mono ?_)
  intro e1 w1 hq
  first | (obtain ⟨rfl, b1⟩ : _ ∧ _ := hq) | (subst hq; intro b1)
  go_wp2_with (go_at_call 24; refine (k24b _).mono ?_)
  intro e2 w2 hq
  first | (obtain ⟨rfl, b2⟩ : _ ∧ _ := hq) | (subst hq; intro b2)
  have B2 : Hid (Below w.heap.size w w2) := b1.trans (b2.mono b1.size)
  clear b1 b2
  go_wp2
  exact hK.out _ _ B2.out ⟨rfl, rfl, rfl, rfl, rfl, trivial⟩
set_option maxRecDepth 100000 in
set_option maxHeartbeats 2000000 in
theorem ri_d2 {Q : Exit → Act → World → Prop} (a0 b0 A C : Nat) (a : Act) (w : World) (k24 : ∀ w, Calls Try.prog 24 #[.float .f64 a0] w fun e w' => e = .returned (.float .f32 A) ∧ Below w.heap.size w w') (k24b : ∀ w, Calls Try.prog 24 #[.float .f64 b0] w fun e w' => e = .returned (.float .f32 C) ∧ Below w.heap.size w w') (h1 : (FloatKind.f64.format.order a0 b0 == some .lt) = false) (h2 : (FloatKind.f64.format.order a0 b0 == some .eq) = true) (h3 : (FloatKind.f32.format.order A C == some .gt) = false) (hK : Hid (∀ a w', Below w.heap.size w w' → At 129 [(5, .float .f64 a0), (6, .float .f64 b0), (7, .float .f64 9218868437227405312)] a → Code.wp Try.prog (sq 7 body5) Q a w')) (ha : At 129 [(5, .float .f64 a0), (6, .float .f64 b0), (7, .float .f64 9218868437227405312)] a) : Code.wp Try.prog (sq 6 body5) Q a w := by
  obtain ⟨f, rfl, h5, h6, h7, -⟩ := ha.lit
  change Code.wp _ _ _ ⟨#[f 0, f 1, f 2, f 3, f 4, f 5, f 6, f 7, f 8, f 9, f 10, f 11, f 12, f 13, f 14, f 15, f 16, f 17, f 18, f 19, f 20, f 21, f 22, f 23, f 24, f 25, f 26, f 27, f 28, f 29, f 30, f 31, f 32, f 33, f 34, f 35, f 36, f 37, f 38, f 39, f 40, f 41, f 42, f 43, f 44, f 45, f 46, f 47, f 48, f 49, f 50, f 51, f 52, f 53, f 54, f 55, f 56, f 57, f 58, f 59, f 60, f 61, f 62, f 63, f 64, f 65, f 66, f 67, f 68, f 69, f 70, f 71, f 72, f 73, f 74, f 75, f 76, f 77, f 78, f 79, f 80, f 81, f 82, f 83, f 84, f 85, f 86, f 87, f 88, f 89, f 90, f 91, f 92, f 93, f 94, f 95, f 96, f 97, f 98, f 99, f 100, f 101, f 102, f 103, f 104, f 105, f 106, f 107, f 108, f 109, f 110, f 111, f 112, f 113, f 114, f 115, f 116, f 117, f 118, f 119, f 120, f 121, f 122, f 123, f 124, f 125, f 126, f 127, f 128], []⟩ _
  simp only at h5 h6 h7
  simp only [h5, h6, h7]
  clear h5 h6 h7
  change Code.wp _ (Code.seq (hd (sq 6 body5)) (sq 7 body5)) _ _ _
  generalize sq 7 body5 = REST at hK ⊢
  conv => arg 2; arg 1; whnf
  go_wp2_with (go_at_call 24; refine (k24 _).mono ?_)
  intro e1 w1 hq
  first | (obtain ⟨rfl, b1⟩ : _ ∧ _ := hq) | (subst hq; intro b1)
  go_wp2_with (go_at_call 24; refine (k24b _).mono ?_)
  intro e2 w2 hq
  first | (obtain ⟨rfl, b2⟩ : _ ∧ _ := hq) | (subst hq; intro b2)
  have B2 : Hid (Below w.heap.size w w2) := b1.trans (b2.mono b1.size)
  clear b1 b2
  go_wp2
  exact hK.out _ _ B2.out ⟨rfl, rfl, rfl, rfl, rfl, trivial⟩
set_option maxRecDepth 100000 in
set_option maxHeartbeats 2000000 in
theorem ri_e {Q : Exit → Act → World → Prop} (a0 b0 e0 : Nat) (a : Act) (w : World) (k19 : ∀ w, Calls Try.prog 19 #[.float .f64 a0] w fun e w' => e = .returned (.float .f64 e0) ∧ Below w.heap.size w w') (hK : Hid (∀ a w', Below w.heap.size w w' → At 129 [(5, .float .f64 a0), (7, .float .f64 9218868437227405312), (9, .float .f64 e0)] a → Code.wp Try.prog (sq 8 body5) Q a w')) (ha : At 129 [(5, .float .f64 a0), (6, .float .f64 b0), (7, .float .f64 9218868437227405312)] a) : Code.wp Try.prog (sq 7 body5) Q a w := by
  obtain ⟨f, rfl, h5, h6, h7, -⟩ := ha.lit
  change Code.wp _ _ _ ⟨#[f 0, f 1, f 2, f 3, f 4, f 5, f 6, f 7, f 8, f 9, f 10, f 11, f 12, f 13, f 14, f 15, f 16, f 17, f 18, f 19, f 20, f 21, f 22, f 23, f 24, f 25, f 26, f 27, f 28, f 29, f 30, f 31, f 32, f 33, f 34, f 35, f 36, f 37, f 38, f 39, f 40, f 41, f 42, f 43, f 44, f 45, f 46, f 47, f 48, f 49, f 50, f 51, f 52, f 53, f 54, f 55, f 56, f 57, f 58, f 59, f 60, f 61, f 62, f 63, f 64, f 65, f 66, f 67, f 68, f 69, f 70, f 71, f 72, f 73, f 74, f 75, f 76, f 77, f 78, f 79, f 80, f 81, f 82, f 83, f 84, f 85, f 86, f 87, f 88, f 89, f 90, f 91, f 92, f 93, f 94, f 95, f 96, f 97, f 98, f 99, f 100, f 101, f 102, f 103, f 104, f 105, f 106, f 107, f 108, f 109, f 110, f 111, f 112, f 113, f 114, f 115, f 116, f 117, f 118, f 119, f 120, f 121, f 122, f 123, f 124, f 125, f 126, f 127, f 128], []⟩ _
  simp only at h5 h6 h7
  simp only [h5, h6, h7]
  clear h5 h6 h7
  change Code.wp _ (Code.seq (hd (sq 7 body5)) (sq 8 body5)) _ _ _
  generalize sq 8 body5 = REST at hK ⊢
  conv => arg 2; arg 1; whnf
  go_wp2_with (go_at_call 19; refine (k19 _).mono ?_)
  intro e1 w1 hq
  first | (obtain ⟨rfl, b1⟩ : _ ∧ _ := hq) | (subst hq; intro b1)
  have B1 := show Hid _ from b1
  clear b1
  go_wp2
  exact hK.out _ _ B1.out ⟨rfl, rfl, rfl, rfl, rfl, trivial⟩
set_option maxRecDepth 100000 in
set_option maxHeartbeats 2000000 in
theorem ri_f1 (a0 e0 : Nat) (a : Act) (w0 w : World) (B : Hid (Below w0.heap.size w0 w)) (h1 : (FloatKind.f64.format.order a0 9218868437227405312 == some .eq) = true) (h3 : (FloatKind.f64.format.order e0 a0 == some .eq) = true) (ha : At 129 [(5, .float .f64 a0), (7, .float .f64 9218868437227405312), (9, .float .f64 e0)] a) : Code.wp Try.prog (sq 8 body5) (bodyPost Try.prog Try.f5 fun e w' => e = .returned (.bool true) ∧ Below w0.heap.size w0 w') a w := by
  obtain ⟨f, rfl, h5, h7, h9, -⟩ := ha.lit
  change Code.wp _ _ _ ⟨#[f 0, f 1, f 2, f 3, f 4, f 5, f 6, f 7, f 8, f 9, f 10, f 11, f 12, f 13, f 14, f 15, f 16, f 17, f 18, f 19, f 20, f 21, f 22, f 23, f 24, f 25, f 26, f 27, f 28, f 29, f 30, f 31, f 32, f 33, f 34, f 35, f 36, f 37, f 38, f 39, f 40, f 41, f 42, f 43, f 44, f 45, f 46, f 47, f 48, f 49, f 50, f 51, f 52, f 53, f 54, f 55, f 56, f 57, f 58, f 59, f 60, f 61, f 62, f 63, f 64, f 65, f 66, f 67, f 68, f 69, f 70, f 71, f 72, f 73, f 74, f 75, f 76, f 77, f 78, f 79, f 80, f 81, f 82, f 83, f 84, f 85, f 86, f 87, f 88, f 89, f 90, f 91, f 92, f 93, f 94, f 95, f 96, f 97, f 98, f 99, f 100, f 101, f 102, f 103, f 104, f 105, f 106, f 107, f 108, f 109, f 110, f 111, f 112, f 113, f 114, f 115, f 116, f 117, f 118, f 119, f 120, f 121, f 122, f 123, f 124, f 125, f 126, f 127, f 128], []⟩ _
  simp only at h5 h7 h9
  simp only [h5, h7, h9]
  clear h5 h7 h9
  conv => arg 2; whnf
  go_wp2
  go_ret
  exact ⟨by simp, B.out⟩
set_option maxRecDepth 100000 in
set_option maxHeartbeats 2000000 in
theorem ri_f2 (a0 e0 : Nat) (a : Act) (w0 w : World) (B : Hid (Below w0.heap.size w0 w)) (h1 : (FloatKind.f64.format.order a0 9218868437227405312 == some .eq) = false) (h2 : (FloatKind.f64.format.order a0 18442240474082181120 == some .eq) = true) (h3 : (FloatKind.f64.format.order e0 a0 == some .eq) = true) (ha : At 129 [(5, .float .f64 a0), (7, .float .f64 9218868437227405312), (9, .float .f64 e0)] a) : Code.wp Try.prog (sq 8 body5) (bodyPost Try.prog Try.f5 fun e w' => e = .returned (.bool true) ∧ Below w0.heap.size w0 w') a w := by
  obtain ⟨f, rfl, h5, h7, h9, -⟩ := ha.lit
  change Code.wp _ _ _ ⟨#[f 0, f 1, f 2, f 3, f 4, f 5, f 6, f 7, f 8, f 9, f 10, f 11, f 12, f 13, f 14, f 15, f 16, f 17, f 18, f 19, f 20, f 21, f 22, f 23, f 24, f 25, f 26, f 27, f 28, f 29, f 30, f 31, f 32, f 33, f 34, f 35, f 36, f 37, f 38, f 39, f 40, f 41, f 42, f 43, f 44, f 45, f 46, f 47, f 48, f 49, f 50, f 51, f 52, f 53, f 54, f 55, f 56, f 57, f 58, f 59, f 60, f 61, f 62, f 63, f 64, f 65, f 66, f 67, f 68, f 69, f 70, f 71, f 72, f 73, f 74, f 75, f 76, f 77, f 78, f 79, f 80, f 81, f 82, f 83, f 84, f 85, f 86, f 87, f 88, f 89, f 90, f 91, f 92, f 93, f 94, f 95, f 96, f 97, f 98, f 99, f 100, f 101, f 102, f 103, f 104, f 105, f 106, f 107, f 108, f 109, f 110, f 111, f 112, f 113, f 114, f 115, f 116, f 117, f 118, f 119, f 120, f 121, f 122, f 123, f 124, f 125, f 126, f 127, f 128], []⟩ _
  simp only at h5 h7 h9
  simp only [h5, h7, h9]
  clear h5 h7 h9
  conv => arg 2; whnf
  refine wp_seq (wp_seq ?_)
  refine wp_region_vals (a1 := ?a1r13n1) (grown _) [.float .f64 a0, .float .f64 9218868437227405312, .bool false, .bool false, .float .f64 a0, .float .f64 9218868437227405312, .float .f64 18442240474082181120, .bool true, .bool true] 129 rfl (by kernel_rfl) (by kernel_rfl) (grown_start _) ⟨?o0r13n1, ?o1r13n1, ?o2r13n1, ?o3r13n1, ?o4r13n1, ?o5r13n1, ?o6r13n1, ?o7r13n1, ?o8r13n1, trivial⟩ ?har13n1 ?hdoner13n1
  case har13n1 => simp [putAll, Act.put]; exact rfl
  case o0r13n1 => exact ValOp.pure (grown_steady _ 0) [(5, .float .f64 a0)] rfl (fun _ _ h2 => ⟨(h2 5 (by kernel_rfl)).trans rfl, trivial⟩) (by kernel_rfl) (fun _ _ _ _ _ => by kernel_rfl)
  case o1r13n1 => exact ValOp.pure (grown_steady _ 1) [(7, .float .f64 9218868437227405312)] rfl (fun _ _ h2 => ⟨(h2 7 (by kernel_rfl)).trans rfl, trivial⟩) (by kernel_rfl) (fun _ _ _ _ _ => by kernel_rfl)
  case o2r13n1 => exact ValOp.pure (grown_steady _ 2) [(84, .float .f64 a0), (85, .float .f64 9218868437227405312)] rfl (fun _ h1 _ => ⟨h1 0 84 (by kernel_rfl), h1 1 85 (by kernel_rfl), trivial⟩) (by kernel_rfl) (fun _ _ _ _ _ => run_bin (a := .float .f64 a0) (b := .float .f64 9218868437227405312) rfl rfl rfl (by kernel_rfl) (by simp [go_sem, h1]))
  case o3r13n1 => exact ValOp.pure (grown_steady _ 3) [(86, .bool false)] rfl (fun _ h1 _ => ⟨h1 2 86 (by kernel_rfl), trivial⟩) (by kernel_rfl) (fun _ _ _ _ _ => by kernel_rfl)
  case o4r13n1 => exact ValOp.pure (grown_steady _ 4) [(5, .float .f64 a0)] ⟨87, _, rfl, rfl, by kernel_rfl, rfl⟩ (fun _ _ h2 => ⟨(h2 5 (by kernel_rfl)).trans rfl, trivial⟩) (by kernel_rfl) (fun _ _ _ _ _ => by kernel_rfl)
  case o5r13n1 => exact ValOp.pure (grown_steady _ 5) [(7, .float .f64 9218868437227405312)] ⟨87, _, rfl, rfl, by kernel_rfl, rfl⟩ (fun _ _ h2 => ⟨(h2 7 (by kernel_rfl)).trans rfl, trivial⟩) (by kernel_rfl) (fun _ _ _ _ _ => by kernel_rfl)
  case o6r13n1 => exact ValOp.pure (grown_steady _ 6) [(89, .float .f64 9218868437227405312)] ⟨87, _, rfl, rfl, by kernel_rfl, rfl⟩ (fun _ h1 _ => ⟨h1 5 89 (by kernel_rfl), trivial⟩) (by kernel_rfl) (fun _ _ _ _ _ => by kernel_rfl)
  case o7r13n1 => exact ValOp.pure (grown_steady _ 7) [(88, .float .f64 a0), (90, .float .f64 18442240474082181120)] ⟨87, _, rfl, rfl, by kernel_rfl, rfl⟩ (fun _ h1 _ => ⟨h1 4 88 (by kernel_rfl), h1 6 90 (by kernel_rfl), trivial⟩) (by kernel_rfl) (fun _ _ _ _ _ => run_bin (a := .float .f64 a0) (b := .float .f64 18442240474082181120) rfl rfl rfl (by kernel_rfl) (by simp [go_sem, h2]))
  case o8r13n1 => exact ValOp.pure (grown_steady _ 8) [(87, .bool false), (91, .bool true)] rfl (fun _ h1 _ => ⟨h1 3 87 (by kernel_rfl), h1 7 91 (by kernel_rfl), trivial⟩) (by kernel_rfl) (fun _ _ _ _ _ => by kernel_rfl)
  intro w1 s1 _ bb
  have B1 : Hid (Below w0.heap.size w0 w1) := B.out.trans ((show Below _ _ w1 from bb).mono B.out.size)
  clear bb
  refine wp_of_then ?_
  go_wp2
  go_ret
  exact ⟨by simp, B1.out⟩
set_option maxRecDepth 100000 in
set_option maxHeartbeats 2000000 in
theorem ri_f0 {Q : Exit → Act → World → Prop} (a0 e0 : Nat) (a : Act) (w : World) (h1 : (FloatKind.f64.format.order a0 9218868437227405312 == some .eq) = false) (h2 : (FloatKind.f64.format.order a0 18442240474082181120 == some .eq) = false) (hK : Hid (∀ a w', Below w.heap.size w w' → At 129 [(5, .float .f64 a0), (9, .float .f64 e0)] a → Code.wp Try.prog (sq 9 body5) Q a w')) (ha : At 129 [(5, .float .f64 a0), (7, .float .f64 9218868437227405312), (9, .float .f64 e0)] a) : Code.wp Try.prog (sq 8 body5) Q a w := by
  obtain ⟨f, rfl, h5, h7, h9, -⟩ := ha.lit
  change Code.wp _ _ _ ⟨#[f 0, f 1, f 2, f 3, f 4, f 5, f 6, f 7, f 8, f 9, f 10, f 11, f 12, f 13, f 14, f 15, f 16, f 17, f 18, f 19, f 20, f 21, f 22, f 23, f 24, f 25, f 26, f 27, f 28, f 29, f 30, f 31, f 32, f 33, f 34, f 35, f 36, f 37, f 38, f 39, f 40, f 41, f 42, f 43, f 44, f 45, f 46, f 47, f 48, f 49, f 50, f 51, f 52, f 53, f 54, f 55, f 56, f 57, f 58, f 59, f 60, f 61, f 62, f 63, f 64, f 65, f 66, f 67, f 68, f 69, f 70, f 71, f 72, f 73, f 74, f 75, f 76, f 77, f 78, f 79, f 80, f 81, f 82, f 83, f 84, f 85, f 86, f 87, f 88, f 89, f 90, f 91, f 92, f 93, f 94, f 95, f 96, f 97, f 98, f 99, f 100, f 101, f 102, f 103, f 104, f 105, f 106, f 107, f 108, f 109, f 110, f 111, f 112, f 113, f 114, f 115, f 116, f 117, f 118, f 119, f 120, f 121, f 122, f 123, f 124, f 125, f 126, f 127, f 128], []⟩ _
  simp only at h5 h7 h9
  simp only [h5, h7, h9]
  clear h5 h7 h9
  change Code.wp _ (Code.seq (hd (sq 8 body5)) (sq 9 body5)) _ _ _
  generalize sq 9 body5 = REST at hK ⊢
  conv => arg 2; arg 1; whnf
  refine wp_seq (wp_seq ?_)
  refine wp_region_vals (a1 := ?a1r13n2) (grown _) [.float .f64 a0, .float .f64 9218868437227405312, .bool false, .bool false, .float .f64 a0, .float .f64 9218868437227405312, .float .f64 18442240474082181120, .bool false, .bool false] 129 rfl (by kernel_rfl) (by kernel_rfl) (grown_start _) ⟨?o0r13n2, ?o1r13n2, ?o2r13n2, ?o3r13n2, ?o4r13n2, ?o5r13n2, ?o6r13n2, ?o7r13n2, ?o8r13n2, trivial⟩ ?har13n2 ?hdoner13n2
  case har13n2 => simp [putAll, Act.put]; exact rfl
  case o0r13n2 => exact ValOp.pure (grown_steady _ 0) [(5, .float .f64 a0)] rfl (fun _ _ h2 => ⟨(h2 5 (by kernel_rfl)).trans rfl, trivial⟩) (by kernel_rfl) (fun _ _ _ _ _ => by kernel_rfl)
  case o1r13n2 => exact ValOp.pure (grown_steady _ 1) [(7, .float .f64 9218868437227405312)] rfl (fun _ _ h2 => ⟨(h2 7 (by kernel_rfl)).trans rfl, trivial⟩) (by kernel_rfl) (fun _ _ _ _ _ => by kernel_rfl)
  case o2r13n2 => exact ValOp.pure (grown_steady _ 2) [(84, .float .f64 a0), (85, .float .f64 9218868437227405312)] rfl (fun _ h1 _ => ⟨h1 0 84 (by kernel_rfl), h1 1 85 (by kernel_rfl), trivial⟩) (by kernel_rfl) (fun _ _ _ _ _ => run_bin (a := .float .f64 a0) (b := .float .f64 9218868437227405312) rfl rfl rfl (by kernel_rfl) (by simp [go_sem, h1]))
  case o3r13n2 => exact ValOp.pure (grown_steady _ 3) [(86, .bool false)] rfl (fun _ h1 _ => ⟨h1 2 86 (by kernel_rfl), trivial⟩) (by kernel_rfl) (fun _ _ _ _ _ => by kernel_rfl)
  case o4r13n2 => exact ValOp.pure (grown_steady _ 4) [(5, .float .f64 a0)] ⟨87, _, rfl, rfl, by kernel_rfl, rfl⟩ (fun _ _ h2 => ⟨(h2 5 (by kernel_rfl)).trans rfl, trivial⟩) (by kernel_rfl) (fun _ _ _ _ _ => by kernel_rfl)
  case o5r13n2 => exact ValOp.pure (grown_steady _ 5) [(7, .float .f64 9218868437227405312)] ⟨87, _, rfl, rfl, by kernel_rfl, rfl⟩ (fun _ _ h2 => ⟨(h2 7 (by kernel_rfl)).trans rfl, trivial⟩) (by kernel_rfl) (fun _ _ _ _ _ => by kernel_rfl)
  case o6r13n2 => exact ValOp.pure (grown_steady _ 6) [(89, .float .f64 9218868437227405312)] ⟨87, _, rfl, rfl, by kernel_rfl, rfl⟩ (fun _ h1 _ => ⟨h1 5 89 (by kernel_rfl), trivial⟩) (by kernel_rfl) (fun _ _ _ _ _ => by kernel_rfl)
  case o7r13n2 => exact ValOp.pure (grown_steady _ 7) [(88, .float .f64 a0), (90, .float .f64 18442240474082181120)] ⟨87, _, rfl, rfl, by kernel_rfl, rfl⟩ (fun _ h1 _ => ⟨h1 4 88 (by kernel_rfl), h1 6 90 (by kernel_rfl), trivial⟩) (by kernel_rfl) (fun _ _ _ _ _ => run_bin (a := .float .f64 a0) (b := .float .f64 18442240474082181120) rfl rfl rfl (by kernel_rfl) (by simp [go_sem, h2]))
  case o8r13n2 => exact ValOp.pure (grown_steady _ 8) [(87, .bool false), (91, .bool false)] rfl (fun _ h1 _ => ⟨h1 3 87 (by kernel_rfl), h1 7 91 (by kernel_rfl), trivial⟩) (by kernel_rfl) (fun _ _ _ _ _ => by kernel_rfl)
  intro w1 s1 _ bb
  have B1 : Hid _ := show Below _ _ w1 from bb
  clear bb
  refine wp_of_then ?_
  go_wp2
  exact hK.out _ _ B1.out ⟨rfl, rfl, rfl, rfl, trivial⟩
set_option maxRecDepth 100000 in
set_option maxHeartbeats 2000000 in
theorem ri_g {Q : Exit → Act → World → Prop} (a0 e0 : Nat) (n : Int) (ok : Bool) (a : Act) (w : World) (k17 : ∀ w, Calls Try.prog 17 #[.float .f64 e0] w fun e w' => e = .returned (.tuple #[.int .i64 n, .bool ok]) ∧ Below w.heap.size w w') (hK : Hid (∀ a w', Below w.heap.size w w' → At 129 [(5, .float .f64 a0), (9, .float .f64 e0), (10, .int .i64 n), (11, .bool ok)] a → Code.wp Try.prog (sq 10 body5) Q a w')) (ha : At 129 [(5, .float .f64 a0), (9, .float .f64 e0)] a) : Code.wp Try.prog (sq 9 body5) Q a w := by
  obtain ⟨f, rfl, h5, h9, -⟩ := ha.lit
  change Code.wp _ _ _ ⟨#[f 0, f 1, f 2, f 3, f 4, f 5, f 6, f 7, f 8, f 9, f 10, f 11, f 12, f 13, f 14, f 15, f 16, f 17, f 18, f 19, f 20, f 21, f 22, f 23, f 24, f 25, f 26, f 27, f 28, f 29, f 30, f 31, f 32, f 33, f 34, f 35, f 36, f 37, f 38, f 39, f 40, f 41, f 42, f 43, f 44, f 45, f 46, f 47, f 48, f 49, f 50, f 51, f 52, f 53, f 54, f 55, f 56, f 57, f 58, f 59, f 60, f 61, f 62, f 63, f 64, f 65, f 66, f 67, f 68, f 69, f 70, f 71, f 72, f 73, f 74, f 75, f 76, f 77, f 78, f 79, f 80, f 81, f 82, f 83, f 84, f 85, f 86, f 87, f 88, f 89, f 90, f 91, f 92, f 93, f 94, f 95, f 96, f 97, f 98, f 99, f 100, f 101, f 102, f 103, f 104, f 105, f 106, f 107, f 108, f 109, f 110, f 111, f 112, f 113, f 114, f 115, f 116, f 117, f 118, f 119, f 120, f 121, f 122, f 123, f 124, f 125, f 126, f 127, f 128], []⟩ _
  simp only at h5 h9
  simp only [h5, h9]
  clear h5 h9
  change Code.wp _ (Code.seq (hd (sq 9 body5)) (sq 10 body5)) _ _ _
  generalize sq 10 body5 = REST at hK ⊢
  conv => arg 2; arg 1; whnf
  go_wp2_with (go_at_call 17; refine (k17 _).mono ?_)
  intro e1 w1 hq
  first | (obtain ⟨rfl, b1⟩ : _ ∧ _ := hq) | (subst hq; intro b1)
  have B1 := show Hid _ from b1
  clear b1
  go_wp2
  exact hK.out _ _ B1.out ⟨rfl, rfl, rfl, rfl, rfl, rfl, trivial⟩
set_option maxRecDepth 100000 in
set_option maxHeartbeats 2000000 in
theorem ri_h1 {Q : Exit → Act → World → Prop} (a0 e0 s s2 : Nat) (n : Int) (a : Act) (w : World) (h1 : (FloatKind.f64.format.order (floatOfInt .f64 n) e0 != some .eq) = false) (hs : FloatKind.f64.format.sub a0 e0 = some s) (k25 : ∀ w, Calls Try.prog 25 #[.float .f64 s] w fun e w' => e = .returned (.float .f64 s2) ∧ Below w.heap.size w w') (h2 : (FloatKind.f64.format.order s2 4602678819172646912 == some .gt) = false) (hK : Hid (∀ a w', Below w.heap.size w w' → At 129 [(5, .float .f64 a0), (9, .float .f64 e0)] a → Code.wp Try.prog (sq 11 body5) Q a w')) (ha : At 129 [(5, .float .f64 a0), (9, .float .f64 e0), (10, .int .i64 n), (11, .bool true)] a) : Code.wp Try.prog (sq 10 body5) Q a w := by
  obtain ⟨f, rfl, h5, h9, h10, h11, -⟩ := ha.lit
  change Code.wp _ _ _ ⟨#[f 0, f 1, f 2, f 3, f 4, f 5, f 6, f 7, f 8, f 9, f 10, f 11, f 12, f 13, f 14, f 15, f 16, f 17, f 18, f 19, f 20, f 21, f 22, f 23, f 24, f 25, f 26, f 27, f 28, f 29, f 30, f 31, f 32, f 33, f 34, f 35, f 36, f 37, f 38, f 39, f 40, f 41, f 42, f 43, f 44, f 45, f 46, f 47, f 48, f 49, f 50, f 51, f 52, f 53, f 54, f 55, f 56, f 57, f 58, f 59, f 60, f 61, f 62, f 63, f 64, f 65, f 66, f 67, f 68, f 69, f 70, f 71, f 72, f 73, f 74, f 75, f 76, f 77, f 78, f 79, f 80, f 81, f 82, f 83, f 84, f 85, f 86, f 87, f 88, f 89, f 90, f 91, f 92, f 93, f 94, f 95, f 96, f 97, f 98, f 99, f 100, f 101, f 102, f 103, f 104, f 105, f 106, f 107, f 108, f 109, f 110, f 111, f 112, f 113, f 114, f 115, f 116, f 117, f 118, f 119, f 120, f 121, f 122, f 123, f 124, f 125, f 126, f 127, f 128], []⟩ _
  simp only at h5 h9 h10 h11
  simp only [h5, h9, h10, h11]
  clear h5 h9 h10 h11
  change Code.wp _ (Code.seq (hd (sq 10 body5)) (sq 11 body5)) _ _ _
  generalize sq 11 body5 = REST at hK ⊢
  conv => arg 2; arg 1; whnf
  refine wp_seq (wp_seq ?_)
  refine wp_region_vals (a1 := ?a1r16n3) (grown _) [.bool true, .bool true, .int .i64 n, .float .f64 (floatOfInt .f64 n), .float .f64 e0, .bool false, .bool false, .float .f64 a0, .float .f64 e0, .float .f64 s, .float .f64 s2, .bool false, .bool false, .bool false, .bool false, .bool true, .bool false, .bool false, undef, undef, undef, .bool false, .bool false] 129 rfl (by kernel_rfl) (by kernel_rfl) (grown_start _) ⟨?o0r16n3, ?o1r16n3, ?o2r16n3, ?o3r16n3, ?o4r16n3, ?o5r16n3, ?o6r16n3, ?o7r16n3, ?o8r16n3, ?o9r16n3, ?o10r16n3, ?o11r16n3, ?o12r16n3, ?o13r16n3, ?o14r16n3, ?o15r16n3, ?o16r16n3, ?o17r16n3, ?o18r16n3, ?o19r16n3, ?o20r16n3, ?o21r16n3, ?o22r16n3, trivial⟩ ?har16n3 ?hdoner16n3
  case har16n3 => simp [putAll, Act.put]; exact rfl
  case o0r16n3 => exact ValOp.pure (grown_steady _ 0) [(11, .bool true)] rfl (fun _ _ h2 => ⟨(h2 11 (by kernel_rfl)).trans rfl, trivial⟩) (by kernel_rfl) (fun _ _ _ _ _ => by kernel_rfl)
  case o1r16n3 => exact ValOp.pure (grown_steady _ 1) [(101, .bool true)] rfl (fun _ h1 _ => ⟨h1 0 101 (by kernel_rfl), trivial⟩) (by kernel_rfl) (fun _ _ _ _ _ => by kernel_rfl)
  case o2r16n3 => exact ValOp.pure (grown_steady _ 2) [(10, .int .i64 n)] ⟨102, _, rfl, rfl, by kernel_rfl, rfl⟩ (fun _ _ h2 => ⟨(h2 10 (by kernel_rfl)).trans rfl, trivial⟩) (by kernel_rfl) (fun _ _ _ _ _ => by kernel_rfl)
  case o3r16n3 => exact ValOp.pure (grown_steady _ 3) [(103, .int .i64 n)] ⟨102, _, rfl, rfl, by kernel_rfl, rfl⟩ (fun _ h1 _ => ⟨h1 2 103 (by kernel_rfl), trivial⟩) (by kernel_rfl) (fun _ _ _ _ _ => by kernel_rfl)
  case o4r16n3 => exact ValOp.pure (grown_steady _ 4) [(9, .float .f64 e0)] ⟨102, _, rfl, rfl, by kernel_rfl, rfl⟩ (fun _ _ h2 => ⟨(h2 9 (by kernel_rfl)).trans rfl, trivial⟩) (by kernel_rfl) (fun _ _ _ _ _ => by kernel_rfl)
  case o5r16n3 => exact ValOp.pure (grown_steady _ 5) [(104, .float .f64 (floatOfInt .f64 n)), (105, .float .f64 e0)] ⟨102, _, rfl, rfl, by kernel_rfl, rfl⟩ (fun _ h1 _ => ⟨h1 3 104 (by kernel_rfl), h1 4 105 (by kernel_rfl), trivial⟩) (by kernel_rfl) (fun _ _ _ _ _ => run_bin (a := .float .f64 (floatOfInt .f64 n)) (b := .float .f64 e0) rfl rfl rfl (by kernel_rfl) (by simp [go_sem, h1]))
  case o6r16n3 => exact ValOp.pure (grown_steady _ 6) [(106, .bool false)] ⟨102, _, rfl, rfl, by kernel_rfl, rfl⟩ (fun _ h1 _ => ⟨h1 5 106 (by kernel_rfl), trivial⟩) (by kernel_rfl) (fun _ _ _ _ _ => by kernel_rfl)
  case o7r16n3 => exact ValOp.pure (grown_steady _ 7) [(5, .float .f64 a0)] ⟨107, _, rfl, rfl, by kernel_rfl, rfl⟩ (fun _ _ h2 => ⟨(h2 5 (by kernel_rfl)).trans rfl, trivial⟩) (by kernel_rfl) (fun _ _ _ _ _ => by kernel_rfl)
  case o8r16n3 => exact ValOp.pure (grown_steady _ 8) [(9, .float .f64 e0)] ⟨107, _, rfl, rfl, by kernel_rfl, rfl⟩ (fun _ _ h2 => ⟨(h2 9 (by kernel_rfl)).trans rfl, trivial⟩) (by kernel_rfl) (fun _ _ _ _ _ => by kernel_rfl)
  case o9r16n3 => exact ValOp.pure (grown_steady _ 9) [(108, .float .f64 a0), (109, .float .f64 e0)] ⟨107, _, rfl, rfl, by kernel_rfl, rfl⟩ (fun _ h1 _ => ⟨h1 7 108 (by kernel_rfl), h1 8 109 (by kernel_rfl), trivial⟩) (by kernel_rfl) (fun _ _ _ _ _ => run_bin (a := .float .f64 a0) (b := .float .f64 e0) rfl rfl rfl (by kernel_rfl) (run_float_arith _ .sub 24 .f64 a0 e0 s hs))
  case o10r16n3 => exact ValOp.call (grown_steady _ 10) [(110, .float .f64 s)] ⟨107, _, rfl, rfl, by kernel_rfl, rfl⟩ (fun _ h1 _ => ⟨h1 9 110 (by kernel_rfl), trivial⟩) (by kernel_rfl) 25 #[.float .f64 s] (fun _ => by kernel_rfl) (fun _ w _ => k25 w)
  case o11r16n3 => exact ValOp.pure (grown_steady _ 11) [(111, .float .f64 s2)] ⟨107, _, rfl, rfl, by kernel_rfl, rfl⟩ (fun _ h1 _ => ⟨h1 10 111 (by kernel_rfl), trivial⟩) (by kernel_rfl) (fun _ _ _ _ _ => run_bin (a := .float .f64 s2) (b := .float .f64 4602678819172646912) rfl rfl rfl (by kernel_rfl) (by simp [go_sem, h2]))
  case o12r16n3 => exact ValOp.pure (grown_steady _ 12) [(107, .bool false), (112, .bool false)] ⟨102, _, rfl, rfl, by kernel_rfl, rfl⟩ (fun _ h1 _ => ⟨h1 6 107 (by kernel_rfl), h1 11 112 (by kernel_rfl), trivial⟩) (by kernel_rfl) (fun _ _ _ _ _ => by kernel_rfl)
  case o13r16n3 => exact ValOp.pure (grown_steady _ 13) [(102, .bool true), (113, .bool false)] rfl (fun _ h1 _ => ⟨h1 1 102 (by kernel_rfl), h1 12 113 (by kernel_rfl), trivial⟩) (by kernel_rfl) (fun _ _ _ _ _ => by kernel_rfl)
  case o14r16n3 => exact ValOp.pure (grown_steady _ 14) [(114, .bool false)] rfl (fun _ h1 _ => ⟨h1 13 114 (by kernel_rfl), trivial⟩) (by kernel_rfl) (fun _ _ _ _ _ => by kernel_rfl)
  case o15r16n3 => exact ValOp.pure (grown_steady _ 15) [(11, .bool true)] ⟨115, _, rfl, rfl, by kernel_rfl, rfl⟩ (fun _ _ h2 => ⟨(h2 11 (by kernel_rfl)).trans rfl, trivial⟩) (by kernel_rfl) (fun _ _ _ _ _ => by kernel_rfl)
  case o16r16n3 => exact ValOp.pure (grown_steady _ 16) [(116, .bool true)] ⟨115, _, rfl, rfl, by kernel_rfl, rfl⟩ (fun _ h1 _ => ⟨h1 15 116 (by kernel_rfl), trivial⟩) (by kernel_rfl) (fun _ _ _ _ _ => by kernel_rfl)
  case o17r16n3 => exact ValOp.pure (grown_steady _ 17) [(117, .bool false)] ⟨115, _, rfl, rfl, by kernel_rfl, rfl⟩ (fun _ h1 _ => ⟨h1 16 117 (by kernel_rfl), trivial⟩) (by kernel_rfl) (fun _ _ _ _ _ => by kernel_rfl)
  case o18r16n3 => exact ValOp.no (grown_steady _ 18) ⟨118, _, rfl, rfl, by kernel_rfl, rfl⟩ rfl
  case o19r16n3 => exact ValOp.no (grown_steady _ 19) ⟨118, _, rfl, rfl, by kernel_rfl, rfl⟩ rfl
  case o20r16n3 => exact ValOp.no (grown_steady _ 20) ⟨118, _, rfl, rfl, by kernel_rfl, rfl⟩ rfl
  case o21r16n3 => exact ValOp.pure (grown_steady _ 21) [(118, .bool false), (121, undef)] ⟨115, _, rfl, rfl, by kernel_rfl, rfl⟩ (fun _ h1 _ => ⟨h1 17 118 (by kernel_rfl), h1 20 121 (by kernel_rfl), trivial⟩) (by kernel_rfl) (fun _ _ _ _ _ => by kernel_rfl)
  case o22r16n3 => exact ValOp.pure (grown_steady _ 22) [(115, .bool false), (122, .bool false)] rfl (fun _ h1 _ => ⟨h1 14 115 (by kernel_rfl), h1 21 122 (by kernel_rfl), trivial⟩) (by kernel_rfl) (fun _ _ _ _ _ => by kernel_rfl)
  intro w1 s1 _ bb
  have B1 : Hid _ := show Below _ _ w1 from bb
  clear bb
  refine wp_of_then ?_
  go_wp2
  exact hK.out _ _ B1.out ⟨rfl, rfl, rfl, rfl, trivial⟩
set_option maxRecDepth 100000 in
set_option maxHeartbeats 2000000 in
theorem ri_h0 {Q : Exit → Act → World → Prop} (a0 e0 s2 : Nat) (n : Int) (a : Act) (w : World) (k25 : ∀ w, Calls Try.prog 25 #[.float .f64 e0] w fun e w' => e = .returned (.float .f64 s2) ∧ Below w.heap.size w w') (h2 : (FloatKind.f64.format.order s2 4890691058569617664 == some .lt) = false) (hK : Hid (∀ a w', Below w.heap.size w w' → At 129 [(5, .float .f64 a0), (9, .float .f64 e0)] a → Code.wp Try.prog (sq 11 body5) Q a w')) (ha : At 129 [(5, .float .f64 a0), (9, .float .f64 e0), (10, .int .i64 n), (11, .bool false)] a) : Code.wp Try.prog (sq 10 body5) Q a w := by
  obtain ⟨f, rfl, h5, h9, h10, h11, -⟩ := ha.lit
  change Code.wp _ _ _ ⟨#[f 0, f 1, f 2, f 3, f 4, f 5, f 6, f 7, f 8, f 9, f 10, f 11, f 12, f 13, f 14, f 15, f 16, f 17, f 18, f 19, f 20, f 21, f 22, f 23, f 24, f 25, f 26, f 27, f 28, f 29, f 30, f 31, f 32, f 33, f 34, f 35, f 36, f 37, f 38, f 39, f 40, f 41, f 42, f 43, f 44, f 45, f 46, f 47, f 48, f 49, f 50, f 51, f 52, f 53, f 54, f 55, f 56, f 57, f 58, f 59, f 60, f 61, f 62, f 63, f 64, f 65, f 66, f 67, f 68, f 69, f 70, f 71, f 72, f 73, f 74, f 75, f 76, f 77, f 78, f 79, f 80, f 81, f 82, f 83, f 84, f 85, f 86, f 87, f 88, f 89, f 90, f 91, f 92, f 93, f 94, f 95, f 96, f 97, f 98, f 99, f 100, f 101, f 102, f 103, f 104, f 105, f 106, f 107, f 108, f 109, f 110, f 111, f 112, f 113, f 114, f 115, f 116, f 117, f 118, f 119, f 120, f 121, f 122, f 123, f 124, f 125, f 126, f 127, f 128], []⟩ _
  simp only at h5 h9 h10 h11
  simp only [h5, h9, h10, h11]
  clear h5 h9 h10 h11
  change Code.wp _ (Code.seq (hd (sq 10 body5)) (sq 11 body5)) _ _ _
  generalize sq 11 body5 = REST at hK ⊢
  conv => arg 2; arg 1; whnf
  go_wp2_with (go_at_call 25; refine (k25 _).mono ?_)
  intro e1 w1 hq
  first | (obtain ⟨rfl, b1⟩ : _ ∧ _ := hq) | (subst hq; intro b1)
  have B1 := show Hid _ from b1
  clear b1
  go_wp2
  exact hK.out _ _ B1.out ⟨rfl, rfl, rfl, rfl, trivial⟩
set_option maxRecDepth 100000 in
set_option maxHeartbeats 2000000 in
theorem ri_i (a0 e0 : Nat) (sg : Bool) (a : Act) (w0 w : World) (B : Hid (Below w0.heap.size w0 w)) (k26 : ∀ w, Calls Try.prog 26 #[.float .f64 e0] w fun e w' => e = .returned (.bool sg) ∧ Below w.heap.size w w') (k26b : ∀ w, Calls Try.prog 26 #[.float .f64 a0] w fun e w' => e = .returned (.bool sg) ∧ Below w.heap.size w w') (ha : At 129 [(5, .float .f64 a0), (9, .float .f64 e0)] a) : Code.wp Try.prog (sq 11 body5) (bodyPost Try.prog Try.f5 fun e w' => e = .returned (.bool true) ∧ Below w0.heap.size w0 w') a w := by
  obtain ⟨f, rfl, h5, h9, -⟩ := ha.lit
  change Code.wp _ _ _ ⟨#[f 0, f 1, f 2, f 3, f 4, f 5, f 6, f 7, f 8, f 9, f 10, f 11, f 12, f 13, f 14, f 15, f 16, f 17, f 18, f 19, f 20, f 21, f 22, f 23, f 24, f 25, f 26, f 27, f 28, f 29, f 30, f 31, f 32, f 33, f 34, f 35, f 36, f 37, f 38, f 39, f 40, f 41, f 42, f 43, f 44, f 45, f 46, f 47, f 48, f 49, f 50, f 51, f 52, f 53, f 54, f 55, f 56, f 57, f 58, f 59, f 60, f 61, f 62, f 63, f 64, f 65, f 66, f 67, f 68, f 69, f 70, f 71, f 72, f 73, f 74, f 75, f 76, f 77, f 78, f 79, f 80, f 81, f 82, f 83, f 84, f 85, f 86, f 87, f 88, f 89, f 90, f 91, f 92, f 93, f 94, f 95, f 96, f 97, f 98, f 99, f 100, f 101, f 102, f 103, f 104, f 105, f 106, f 107, f 108, f 109, f 110, f 111, f 112, f 113, f 114, f 115, f 116, f 117, f 118, f 119, f 120, f 121, f 122, f 123, f 124, f 125, f 126, f 127, f 128], []⟩ _
  simp only at h5 h9
  simp only [h5, h9]
  clear h5 h9
  conv => arg 2; whnf
  go_wp2_with (go_at_call 26; refine (k26 _).mono ?_)
  intro e1 w1 hq
  first | (obtain ⟨rfl, b1⟩ : _ ∧ _ := hq) | (subst hq; intro b1)
  go_wp2_with (go_at_call 26; refine (k26b _).mono ?_)
  intro e2 w2 hq
  first | (obtain ⟨rfl, b2⟩ : _ ∧ _ := hq) | (subst hq; intro b2)
  have B1 : Hid (Below w0.heap.size w0 w1) := B.out.trans (b1.mono B.out.size)
  have B2 : Hid (Below w0.heap.size w0 w2) := B1.out.trans (b2.mono B1.out.size)
  clear b1 b2
  go_wp2
  go_ret
  exact ⟨by simp, B2.out⟩
end Go.Proofs.Ytjcjecbffnadaab
