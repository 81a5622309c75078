/-
  The contract of the document's Remainder, walked. Condition: the floats' bits fit.
-/
import Derived.Test.YtjcjecbffnadaabRb1
import Derived.Test.YtjcjecbffnadaabFo
import Derived.Deep.LoopGhost
import Derived.BigRegion
namespace Go.Proofs.Ytjcjecbffnadaab
open Go.RowKit
noncomputable def body34 : Code := Try.f34.body.getD .skip
set_option maxRecDepth 100000 in
set_option maxHeartbeats 2000000 in
theorem rr_a {Q : Ending → World → Prop} (kx Xx : Int) (nx qx : Bool) (Mx Lx : Nat) (ky Xy : Int) (ny qy : Bool) (My Ly : Nat) (a0 b0 : Nat) (w : World) (k11 : ∀ w, Calls Try.prog 11 #[.int .u64 (a0 : Int), .agg #[.int .i64 52, .int .i64 2047, .int .i64 1023]] w fun e w' => e = .returned (.agg #[.int .i64 kx, .bool nx, .int .u64 (Mx : Int), .int .i64 Xx, .bool qx, .int .u64 (Lx : Int)]) ∧ Below w.heap.size w w') (k11b : ∀ w, Calls Try.prog 11 #[.int .u64 (b0 : Int), .agg #[.int .i64 52, .int .i64 2047, .int .i64 1023]] w fun e w' => e = .returned (.agg #[.int .i64 ky, .bool ny, .int .u64 (My : Int), .int .i64 Xy, .bool qy, .int .u64 (Ly : Int)]) ∧ Below w.heap.size w w')
    (hK : Hid (∀ a w' gx gy, Below w.heap.size w w' → w'.heap[gx]? = some (.cells #[.int .i64 kx, .bool nx, .int .u64 (Mx : Int), .int .i64 Xx, .bool qx, .int .u64 (Lx : Int)] 27 (0, 0)) ∧ w'.heap[gy]? = some (.cells #[.int .i64 ky, .bool ny, .int .u64 (My : Int), .int .i64 Xy, .bool qy, .int .u64 (Ly : Int)] 27 (0, 0)) → At 135 [(0, .int .u64 (a0 : Int)), (5, .pointer (some ⟨gx, 0, none⟩)), (6, .pointer (some ⟨gy, 0, none⟩))] a → Code.wp Try.prog (sq 2 body34) (bodyPost Try.prog Try.f34 Q) a w')) : Calls Try.prog 34 #[.int .u64 (a0 : Int), .int .u64 (b0 : Int)] w Q := by
  have k12 := k16l
  unfold k16L at k12
  go_enter Try.func34, Try.ntmps34
  change Code.wp _ (Code.seq (hd (sq 0 body34)) (Code.seq (hd (sq 1 body34)) (sq 2 body34))) _ _ _
  generalize sq 2 body34 = REST at hK ⊢
  conv => arg 2; arg 1; whnf
  conv => arg 2; arg 2; arg 1; whnf
  go_wp2_with (go_at_call 12; refine (k12 _).mono ?_)
  intro e1 w1 hq
  first | (obtain ⟨rfl, b1⟩ : _ ∧ _ := hq) | (subst hq; intro b1)
  go_wp2_with (go_at_call 11; refine (k11 _).mono ?_)
  intro e2 w2 hq
  first | (obtain ⟨rfl, b2⟩ : _ ∧ _ := hq) | (subst hq; intro b2)
  go_wp2_with (go_at_call 12; refine (k12 _).mono ?_)
  intro e3 w3 hq
  first | (obtain ⟨rfl, b3⟩ : _ ∧ _ := hq) | (subst hq; intro b3)
  go_wp2_with (go_at_call 11; refine (k11b _).mono ?_)
  intro e4 w4 hq
  first | (obtain ⟨rfl, b4⟩ : _ ∧ _ := hq) | (subst hq; intro b4)
  have B2 := b1.trans (b2.mono b1.size)
  have B0 : Below w.heap.size w w4 := B2.trans ((b3.trans (b4.mono b3.size)).mono B2.size)
  have z0 := B0.size
  clear b1 b2 b3 b4 B2
  go_wp2
  refine hK.out _ _ w4.heap.size (w4.heap.size + 1) ((B0.alloc B0.size _).alloc (by simp; omega) _) ⟨(Below.heap_alloc _ _ _ (by simp)).trans (heap_alloc_last _ _), last_at _ _ (by simp)⟩ ⟨rfl, rfl, rfl, rfl, rfl, trivial⟩
set_option maxRecDepth 100000 in
set_option maxHeartbeats 2000000 in
theorem rr_n1 (kx Xx : Int) (nx qx : Bool) (Mx Lx : Nat) (ky Xy : Int) (ny qy : Bool) (My Ly : Nat) (a0 gx gy : Nat) (a : Act) (w0 w : World) (B : Hid (Below w0.heap.size w0 w)) (hw : Hid (w.heap[gx]? = some (.cells #[.int .i64 kx, .bool nx, .int .u64 (Mx : Int), .int .i64 Xx, .bool qx, .int .u64 (Lx : Int)] 27 (0, 0)) ∧ w.heap[gy]? = some (.cells #[.int .i64 ky, .bool ny, .int .u64 (My : Int), .int .i64 Xy, .bool qy, .int .u64 (Ly : Int)] 27 (0, 0)))) (h : kx = 4) (ha : At 135 [(0, .int .u64 (a0 : Int)), (5, .pointer (some ⟨gx, 0, none⟩)), (6, .pointer (some ⟨gy, 0, none⟩))] a) : Code.wp Try.prog (sq 2 body34) (bodyPost Try.prog Try.f34 fun e w' => e = .returned (.int .u64 9221120237041090560) ∧ Below w0.heap.size w0 w') a w := by
  subst h
  have k62 : ∀ w, Calls Try.prog 62 #[] w fun e w' => e = .returned (.int .u64 9221120237041090560) ∧ Below w.heap.size w w' := fun w => by
    go_enter Try.func62, Try.ntmps62
    go_wp2
    go_ret
    exact ⟨rfl, Below.refl _ _⟩
  obtain ⟨rx, ry⟩ := hw.out
  obtain ⟨x0, x1, x2, x3, x4, x5⟩ := cells6 rx
  obtain ⟨y0, y1, y2, y3, y4, y5⟩ := cells6 ry
  clear rx ry
  obtain ⟨f, rfl, h0, h5, h6, -⟩ := ha.lit
  change Code.wp _ _ _ ⟨#[f 0, f 1, f 2, f 3, f 4, f 5, f 6, f 7, f 8, f 9, f 10, f 11, f 12, f 13, f 14, f 15, f 16, f 17, f 18, f 19, f 20, f 21, f 22, f 23, f 24, f 25, f 26, f 27, f 28, f 29, f 30, f 31, f 32, f 33, f 34, f 35, f 36, f 37, f 38, f 39, f 40, f 41, f 42, f 43, f 44, f 45, f 46, f 47, f 48, f 49, f 50, f 51, f 52, f 53, f 54, f 55, f 56, f 57, f 58, f 59, f 60, f 61, f 62, f 63, f 64, f 65, f 66, f 67, f 68, f 69, f 70, f 71, f 72, f 73, f 74, f 75, f 76, f 77, f 78, f 79, f 80, f 81, f 82, f 83, f 84, f 85, f 86, f 87, f 88, f 89, f 90, f 91, f 92, f 93, f 94, f 95, f 96, f 97, f 98, f 99, f 100, f 101, f 102, f 103, f 104, f 105, f 106, f 107, f 108, f 109, f 110, f 111, f 112, f 113, f 114, f 115, f 116, f 117, f 118, f 119, f 120, f 121, f 122, f 123, f 124, f 125, f 126, f 127, f 128, f 129, f 130, f 131, f 132, f 133, f 134], []⟩ _
  simp only at h0 h5 h6
  simp only [h0, h5, h6]
  clear h0 h5 h6
  conv => arg 2; whnf
  go_wp2_with (go_at_call 62; refine (k62 _).mono ?_)
  intro e1 w1 hq
  first | (obtain ⟨rfl, b1⟩ : _ ∧ _ := hq) | (subst hq; intro b1)
  have B1 : Hid (Below w0.heap.size w0 w1) := B.out.trans (b1.mono B.out.size)
  clear b1
  go_wp2
  go_ret
  exact ⟨rfl, B1.out⟩
set_option maxRecDepth 100000 in
set_option maxHeartbeats 2000000 in
theorem rr_n2 (kx Xx : Int) (nx qx : Bool) (Mx Lx : Nat) (ky Xy : Int) (ny qy : Bool) (My Ly : Nat) (a0 gx gy : Nat) (a : Act) (w0 w : World) (B : Hid (Below w0.heap.size w0 w)) (hw : Hid (w.heap[gx]? = some (.cells #[.int .i64 kx, .bool nx, .int .u64 (Mx : Int), .int .i64 Xx, .bool qx, .int .u64 (Lx : Int)] 27 (0, 0)) ∧ w.heap[gy]? = some (.cells #[.int .i64 ky, .bool ny, .int .u64 (My : Int), .int .i64 Xy, .bool qy, .int .u64 (Ly : Int)] 27 (0, 0)))) (h1 : (kx == 4) = false) (h : ky = 4) (ha : At 135 [(0, .int .u64 (a0 : Int)), (5, .pointer (some ⟨gx, 0, none⟩)), (6, .pointer (some ⟨gy, 0, none⟩))] a) : Code.wp Try.prog (sq 2 body34) (bodyPost Try.prog Try.f34 fun e w' => e = .returned (.int .u64 9221120237041090560) ∧ Below w0.heap.size w0 w') a w := by
  subst h
  have k62 : ∀ w, Calls Try.prog 62 #[] w fun e w' => e = .returned (.int .u64 9221120237041090560) ∧ Below w.heap.size w w' := fun w => by
    go_enter Try.func62, Try.ntmps62
    go_wp2
    go_ret
    exact ⟨rfl, Below.refl _ _⟩
  obtain ⟨rx, ry⟩ := hw.out
  obtain ⟨x0, x1, x2, x3, x4, x5⟩ := cells6 rx
  obtain ⟨y0, y1, y2, y3, y4, y5⟩ := cells6 ry
  clear rx ry
  obtain ⟨f, rfl, h0, h5, h6, -⟩ := ha.lit
  change Code.wp _ _ _ ⟨#[f 0, f 1, f 2, f 3, f 4, f 5, f 6, f 7, f 8, f 9, f 10, f 11, f 12, f 13, f 14, f 15, f 16, f 17, f 18, f 19, f 20, f 21, f 22, f 23, f 24, f 25, f 26, f 27, f 28, f 29, f 30, f 31, f 32, f 33, f 34, f 35, f 36, f 37, f 38, f 39, f 40, f 41, f 42, f 43, f 44, f 45, f 46, f 47, f 48, f 49, f 50, f 51, f 52, f 53, f 54, f 55, f 56, f 57, f 58, f 59, f 60, f 61, f 62, f 63, f 64, f 65, f 66, f 67, f 68, f 69, f 70, f 71, f 72, f 73, f 74, f 75, f 76, f 77, f 78, f 79, f 80, f 81, f 82, f 83, f 84, f 85, f 86, f 87, f 88, f 89, f 90, f 91, f 92, f 93, f 94, f 95, f 96, f 97, f 98, f 99, f 100, f 101, f 102, f 103, f 104, f 105, f 106, f 107, f 108, f 109, f 110, f 111, f 112, f 113, f 114, f 115, f 116, f 117, f 118, f 119, f 120, f 121, f 122, f 123, f 124, f 125, f 126, f 127, f 128, f 129, f 130, f 131, f 132, f 133, f 134], []⟩ _
  simp only at h0 h5 h6
  simp only [h0, h5, h6]
  clear h0 h5 h6
  conv => arg 2; whnf
  go_wp2_with (go_at_call 62; refine (k62 _).mono ?_)
  intro e1 w1 hq
  first | (obtain ⟨rfl, b1⟩ : _ ∧ _ := hq) | (subst hq; intro b1)
  have B1 : Hid (Below w0.heap.size w0 w1) := B.out.trans (b1.mono B.out.size)
  clear b1
  go_wp2
  go_ret
  exact ⟨rfl, B1.out⟩
set_option maxRecDepth 100000 in
set_option maxHeartbeats 2000000 in
theorem rr_n3 (kx Xx : Int) (nx qx : Bool) (Mx Lx : Nat) (ky Xy : Int) (ny qy : Bool) (My Ly : Nat) (a0 gx gy : Nat) (a : Act) (w0 w : World) (B : Hid (Below w0.heap.size w0 w)) (hw : Hid (w.heap[gx]? = some (.cells #[.int .i64 kx, .bool nx, .int .u64 (Mx : Int), .int .i64 Xx, .bool qx, .int .u64 (Lx : Int)] 27 (0, 0)) ∧ w.heap[gy]? = some (.cells #[.int .i64 ky, .bool ny, .int .u64 (My : Int), .int .i64 Xy, .bool qy, .int .u64 (Ly : Int)] 27 (0, 0)))) (h : kx = 3) (h2 : (ky == 4) = false) (ha : At 135 [(0, .int .u64 (a0 : Int)), (5, .pointer (some ⟨gx, 0, none⟩)), (6, .pointer (some ⟨gy, 0, none⟩))] a) : Code.wp Try.prog (sq 2 body34) (bodyPost Try.prog Try.f34 fun e w' => e = .returned (.int .u64 9221120237041090560) ∧ Below w0.heap.size w0 w') a w := by
  subst h
  have k62 : ∀ w, Calls Try.prog 62 #[] w fun e w' => e = .returned (.int .u64 9221120237041090560) ∧ Below w.heap.size w w' := fun w => by
    go_enter Try.func62, Try.ntmps62
    go_wp2
    go_ret
    exact ⟨rfl, Below.refl _ _⟩
  obtain ⟨rx, ry⟩ := hw.out
  obtain ⟨x0, x1, x2, x3, x4, x5⟩ := cells6 rx
  obtain ⟨y0, y1, y2, y3, y4, y5⟩ := cells6 ry
  clear rx ry
  obtain ⟨f, rfl, h0, h5, h6, -⟩ := ha.lit
  change Code.wp _ _ _ ⟨#[f 0, f 1, f 2, f 3, f 4, f 5, f 6, f 7, f 8, f 9, f 10, f 11, f 12, f 13, f 14, f 15, f 16, f 17, f 18, f 19, f 20, f 21, f 22, f 23, f 24, f 25, f 26, f 27, f 28, f 29, f 30, f 31, f 32, f 33, f 34, f 35, f 36, f 37, f 38, f 39, f 40, f 41, f 42, f 43, f 44, f 45, f 46, f 47, f 48, f 49, f 50, f 51, f 52, f 53, f 54, f 55, f 56, f 57, f 58, f 59, f 60, f 61, f 62, f 63, f 64, f 65, f 66, f 67, f 68, f 69, f 70, f 71, f 72, f 73, f 74, f 75, f 76, f 77, f 78, f 79, f 80, f 81, f 82, f 83, f 84, f 85, f 86, f 87, f 88, f 89, f 90, f 91, f 92, f 93, f 94, f 95, f 96, f 97, f 98, f 99, f 100, f 101, f 102, f 103, f 104, f 105, f 106, f 107, f 108, f 109, f 110, f 111, f 112, f 113, f 114, f 115, f 116, f 117, f 118, f 119, f 120, f 121, f 122, f 123, f 124, f 125, f 126, f 127, f 128, f 129, f 130, f 131, f 132, f 133, f 134], []⟩ _
  simp only at h0 h5 h6
  simp only [h0, h5, h6]
  clear h0 h5 h6
  conv => arg 2; whnf
  go_wp2_with (go_at_call 62; refine (k62 _).mono ?_)
  intro e1 w1 hq
  first | (obtain ⟨rfl, b1⟩ : _ ∧ _ := hq) | (subst hq; intro b1)
  have B1 : Hid (Below w0.heap.size w0 w1) := B.out.trans (b1.mono B.out.size)
  clear b1
  go_wp2
  go_ret
  exact ⟨rfl, B1.out⟩
set_option maxRecDepth 100000 in
set_option maxHeartbeats 2000000 in
theorem rr_n4 (kx Xx : Int) (nx qx : Bool) (Mx Lx : Nat) (ky Xy : Int) (ny qy : Bool) (My Ly : Nat) (a0 gx gy : Nat) (a : Act) (w0 w : World) (B : Hid (Below w0.heap.size w0 w)) (hw : Hid (w.heap[gx]? = some (.cells #[.int .i64 kx, .bool nx, .int .u64 (Mx : Int), .int .i64 Xx, .bool qx, .int .u64 (Lx : Int)] 27 (0, 0)) ∧ w.heap[gy]? = some (.cells #[.int .i64 ky, .bool ny, .int .u64 (My : Int), .int .i64 Xy, .bool qy, .int .u64 (Ly : Int)] 27 (0, 0)))) (h1 : (kx == 4) = false) (h2 : (kx == 3) = false) (h : ky = 0) (ha : At 135 [(0, .int .u64 (a0 : Int)), (5, .pointer (some ⟨gx, 0, none⟩)), (6, .pointer (some ⟨gy, 0, none⟩))] a) : Code.wp Try.prog (sq 2 body34) (bodyPost Try.prog Try.f34 fun e w' => e = .returned (.int .u64 9221120237041090560) ∧ Below w0.heap.size w0 w') a w := by
  subst h
  have k62 : ∀ w, Calls Try.prog 62 #[] w fun e w' => e = .returned (.int .u64 9221120237041090560) ∧ Below w.heap.size w w' := fun w => by
    go_enter Try.func62, Try.ntmps62
    go_wp2
    go_ret
    exact ⟨rfl, Below.refl _ _⟩
  obtain ⟨rx, ry⟩ := hw.out
  obtain ⟨x0, x1, x2, x3, x4, x5⟩ := cells6 rx
  obtain ⟨y0, y1, y2, y3, y4, y5⟩ := cells6 ry
  clear rx ry
  obtain ⟨f, rfl, h0, h5, h6, -⟩ := ha.lit
  change Code.wp _ _ _ ⟨#[f 0, f 1, f 2, f 3, f 4, f 5, f 6, f 7, f 8, f 9, f 10, f 11, f 12, f 13, f 14, f 15, f 16, f 17, f 18, f 19, f 20, f 21, f 22, f 23, f 24, f 25, f 26, f 27, f 28, f 29, f 30, f 31, f 32, f 33, f 34, f 35, f 36, f 37, f 38, f 39, f 40, f 41, f 42, f 43, f 44, f 45, f 46, f 47, f 48, f 49, f 50, f 51, f 52, f 53, f 54, f 55, f 56, f 57, f 58, f 59, f 60, f 61, f 62, f 63, f 64, f 65, f 66, f 67, f 68, f 69, f 70, f 71, f 72, f 73, f 74, f 75, f 76, f 77, f 78, f 79, f 80, f 81, f 82, f 83, f 84, f 85, f 86, f 87, f 88, f 89, f 90, f 91, f 92, f 93, f 94, f 95, f 96, f 97, f 98, f 99, f 100, f 101, f 102, f 103, f 104, f 105, f 106, f 107, f 108, f 109, f 110, f 111, f 112, f 113, f 114, f 115, f 116, f 117, f 118, f 119, f 120, f 121, f 122, f 123, f 124, f 125, f 126, f 127, f 128, f 129, f 130, f 131, f 132, f 133, f 134], []⟩ _
  simp only at h0 h5 h6
  simp only [h0, h5, h6]
  clear h0 h5 h6
  conv => arg 2; whnf
  go_wp2_with (go_at_call 62; refine (k62 _).mono ?_)
  intro e1 w1 hq
  first | (obtain ⟨rfl, b1⟩ : _ ∧ _ := hq) | (subst hq; intro b1)
  have B1 : Hid (Below w0.heap.size w0 w1) := B.out.trans (b1.mono B.out.size)
  clear b1
  go_wp2
  go_ret
  exact ⟨rfl, B1.out⟩
set_option maxRecDepth 100000 in
set_option maxHeartbeats 2000000 in
theorem rr_s1 (kx Xx : Int) (nx qx : Bool) (Mx Lx : Nat) (ky Xy : Int) (ny qy : Bool) (My Ly : Nat) (a0 gx gy : Nat) (a : Act) (w0 w : World) (B : Hid (Below w0.heap.size w0 w)) (hw : Hid (w.heap[gx]? = some (.cells #[.int .i64 kx, .bool nx, .int .u64 (Mx : Int), .int .i64 Xx, .bool qx, .int .u64 (Lx : Int)] 27 (0, 0)) ∧ w.heap[gy]? = some (.cells #[.int .i64 ky, .bool ny, .int .u64 (My : Int), .int .i64 Xy, .bool qy, .int .u64 (Ly : Int)] 27 (0, 0)))) (h1 : (kx == 4) = false) (h2 : (kx == 3) = false) (h : ky = 3) (ha : At 135 [(0, .int .u64 (a0 : Int)), (5, .pointer (some ⟨gx, 0, none⟩)), (6, .pointer (some ⟨gy, 0, none⟩))] a) : Code.wp Try.prog (sq 2 body34) (bodyPost Try.prog Try.f34 fun e w' => e = .returned (.int .u64 (a0 : Int)) ∧ Below w0.heap.size w0 w') a w := by
  subst h
  obtain ⟨rx, ry⟩ := hw.out
  obtain ⟨x0, x1, x2, x3, x4, x5⟩ := cells6 rx
  obtain ⟨y0, y1, y2, y3, y4, y5⟩ := cells6 ry
  clear rx ry
  obtain ⟨f, rfl, h0, h5, h6, -⟩ := ha.lit
  change Code.wp _ _ _ ⟨#[f 0, f 1, f 2, f 3, f 4, f 5, f 6, f 7, f 8, f 9, f 10, f 11, f 12, f 13, f 14, f 15, f 16, f 17, f 18, f 19, f 20, f 21, f 22, f 23, f 24, f 25, f 26, f 27, f 28, f 29, f 30, f 31, f 32, f 33, f 34, f 35, f 36, f 37, f 38, f 39, f 40, f 41, f 42, f 43, f 44, f 45, f 46, f 47, f 48, f 49, f 50, f 51, f 52, f 53, f 54, f 55, f 56, f 57, f 58, f 59, f 60, f 61, f 62, f 63, f 64, f 65, f 66, f 67, f 68, f 69, f 70, f 71, f 72, f 73, f 74, f 75, f 76, f 77, f 78, f 79, f 80, f 81, f 82, f 83, f 84, f 85, f 86, f 87, f 88, f 89, f 90, f 91, f 92, f 93, f 94, f 95, f 96, f 97, f 98, f 99, f 100, f 101, f 102, f 103, f 104, f 105, f 106, f 107, f 108, f 109, f 110, f 111, f 112, f 113, f 114, f 115, f 116, f 117, f 118, f 119, f 120, f 121, f 122, f 123, f 124, f 125, f 126, f 127, f 128, f 129, f 130, f 131, f 132, f 133, f 134], []⟩ _
  simp only at h0 h5 h6
  simp only [h0, h5, h6]
  clear h0 h5 h6
  conv => arg 2; whnf
  go_wp2
  go_ret
  exact ⟨rfl, B.out⟩
set_option maxRecDepth 100000 in
set_option maxHeartbeats 2000000 in
theorem rr_s2 (kx Xx : Int) (nx qx : Bool) (Mx Lx : Nat) (ky Xy : Int) (ny qy : Bool) (My Ly : Nat) (a0 gx gy : Nat) (a : Act) (w0 w : World) (B : Hid (Below w0.heap.size w0 w)) (hw : Hid (w.heap[gx]? = some (.cells #[.int .i64 kx, .bool nx, .int .u64 (Mx : Int), .int .i64 Xx, .bool qx, .int .u64 (Lx : Int)] 27 (0, 0)) ∧ w.heap[gy]? = some (.cells #[.int .i64 ky, .bool ny, .int .u64 (My : Int), .int .i64 Xy, .bool qy, .int .u64 (Ly : Int)] 27 (0, 0)))) (h3 : (ky == 4) = false) (h4 : (ky == 0) = false) (h5 : (ky == 3) = false) (h : kx = 0) (ha : At 135 [(0, .int .u64 (a0 : Int)), (5, .pointer (some ⟨gx, 0, none⟩)), (6, .pointer (some ⟨gy, 0, none⟩))] a) : Code.wp Try.prog (sq 2 body34) (bodyPost Try.prog Try.f34 fun e w' => e = .returned (.int .u64 (a0 : Int)) ∧ Below w0.heap.size w0 w') a w := by
  subst h
  obtain ⟨rx, ry⟩ := hw.out
  obtain ⟨x0, x1, x2, x3, x4, x5⟩ := cells6 rx
  obtain ⟨y0, y1, y2, y3, y4, y5⟩ := cells6 ry
  clear rx ry
  obtain ⟨f, rfl, h0, h5, h6, -⟩ := ha.lit
  change Code.wp _ _ _ ⟨#[f 0, f 1, f 2, f 3, f 4, f 5, f 6, f 7, f 8, f 9, f 10, f 11, f 12, f 13, f 14, f 15, f 16, f 17, f 18, f 19, f 20, f 21, f 22, f 23, f 24, f 25, f 26, f 27, f 28, f 29, f 30, f 31, f 32, f 33, f 34, f 35, f 36, f 37, f 38, f 39, f 40, f 41, f 42, f 43, f 44, f 45, f 46, f 47, f 48, f 49, f 50, f 51, f 52, f 53, f 54, f 55, f 56, f 57, f 58, f 59, f 60, f 61, f 62, f 63, f 64, f 65, f 66, f 67, f 68, f 69, f 70, f 71, f 72, f 73, f 74, f 75, f 76, f 77, f 78, f 79, f 80, f 81, f 82, f 83, f 84, f 85, f 86, f 87, f 88, f 89, f 90, f 91, f 92, f 93, f 94, f 95, f 96, f 97, f 98, f 99, f 100, f 101, f 102, f 103, f 104, f 105, f 106, f 107, f 108, f 109, f 110, f 111, f 112, f 113, f 114, f 115, f 116, f 117, f 118, f 119, f 120, f 121, f 122, f 123, f 124, f 125, f 126, f 127, f 128, f 129, f 130, f 131, f 132, f 133, f 134], []⟩ _
  simp only at h0 h5 h6
  simp only [h0, h5, h6]
  clear h0 h5 h6
  conv => arg 2; whnf
  go_wp2
  go_ret
  exact ⟨rfl, B.out⟩
set_option maxRecDepth 100000 in
set_option maxHeartbeats 2000000 in
theorem rr_b {Q : Exit → Act → World → Prop} (kx Xx : Int) (nx qx : Bool) (Mx Lx : Nat) (ky Xy : Int) (ny qy : Bool) (My Ly : Nat) (a0 gx gy : Nat) (a : Act) (w : World) (hw : Hid (w.heap[gx]? = some (.cells #[.int .i64 kx, .bool nx, .int .u64 (Mx : Int), .int .i64 Xx, .bool qx, .int .u64 (Lx : Int)] 27 (0, 0)) ∧ w.heap[gy]? = some (.cells #[.int .i64 ky, .bool ny, .int .u64 (My : Int), .int .i64 Xy, .bool qy, .int .u64 (Ly : Int)] 27 (0, 0)))) (h1 : (kx == 4) = false) (h2 : (kx == 3) = false) (h3 : (ky == 4) = false) (h4 : (ky == 0) = false) (h5 : (ky == 3) = false) (h6 : (kx == 0) = false) (hK : Hid (∀ a w', Below w.heap.size w w' → At 135 [(0, .int .u64 (a0 : Int)), (5, .pointer (some ⟨gx, 0, none⟩)), (6, .pointer (some ⟨gy, 0, none⟩)), (7, .int .u64 (Mx : Int)), (8, .int .u64 (My : Int)), (9, .int .i64 Xy), (10, .bool false)] a → Code.wp Try.prog (sq 6 body34) Q a w')) (ha : At 135 [(0, .int .u64 (a0 : Int)), (5, .pointer (some ⟨gx, 0, none⟩)), (6, .pointer (some ⟨gy, 0, none⟩))] a) : Code.wp Try.prog (sq 2 body34) Q a w := by
  obtain ⟨rx, ry⟩ := hw.out
  obtain ⟨x0, x1, x2, x3, x4, x5⟩ := cells6 rx
  obtain ⟨y0, y1, y2, y3, y4, y5⟩ := cells6 ry
  clear rx ry
  obtain ⟨f, rfl, h0, h5, h6, -⟩ := ha.lit
  change Code.wp _ _ _ ⟨#[f 0, f 1, f 2, f 3, f 4, f 5, f 6, f 7, f 8, f 9, f 10, f 11, f 12, f 13, f 14, f 15, f 16, f 17, f 18, f 19, f 20, f 21, f 22, f 23, f 24, f 25, f 26, f 27, f 28, f 29, f 30, f 31, f 32, f 33, f 34, f 35, f 36, f 37, f 38, f 39, f 40, f 41, f 42, f 43, f 44, f 45, f 46, f 47, f 48, f 49, f 50, f 51, f 52, f 53, f 54, f 55, f 56, f 57, f 58, f 59, f 60, f 61, f 62, f 63, f 64, f 65, f 66, f 67, f 68, f 69, f 70, f 71, f 72, f 73, f 74, f 75, f 76, f 77, f 78, f 79, f 80, f 81, f 82, f 83, f 84, f 85, f 86, f 87, f 88, f 89, f 90, f 91, f 92, f 93, f 94, f 95, f 96, f 97, f 98, f 99, f 100, f 101, f 102, f 103, f 104, f 105, f 106, f 107, f 108, f 109, f 110, f 111, f 112, f 113, f 114, f 115, f 116, f 117, f 118, f 119, f 120, f 121, f 122, f 123, f 124, f 125, f 126, f 127, f 128, f 129, f 130, f 131, f 132, f 133, f 134], []⟩ _
  simp only at h0 h5 h6
  simp only [h0, h5, h6]
  clear h0 h5 h6
  change Code.wp _ (Code.seq (hd (sq 2 body34)) (Code.seq (hd (sq 3 body34)) (Code.seq (hd (sq 4 body34)) (Code.seq (hd (sq 5 body34)) (sq 6 body34))))) _ _ _
  generalize sq 6 body34 = REST at hK ⊢
  conv => arg 2; arg 1; whnf
  conv => arg 2; arg 2; arg 1; whnf
  conv => arg 2; arg 2; arg 2; arg 1; whnf
  conv => arg 2; arg 2; arg 2; arg 2; arg 1; whnf
  go_wp2
  clear h1 h2 h3 h4 h5 h6
  go_region
  go_wp2
  exact hK.out _ _ (Below.refl _ _).drew ⟨rfl, rfl, rfl, rfl, rfl, rfl, rfl, rfl, rfl, trivial⟩
set_option maxRecDepth 100000 in
set_option maxHeartbeats 2000000 in
theorem rr_c {Q : Exit → Act → World → Prop} (kx Xx : Int) (nx qx : Bool) (Mx Lx : Nat) (ky Xy : Int) (ny qy : Bool) (My Ly : Nat) (D s a0 gx gy : Nat) (a : Act) (w : World) (hw : Hid (w.heap[gx]? = some (.cells #[.int .i64 kx, .bool nx, .int .u64 (Mx : Int), .int .i64 Xx, .bool qx, .int .u64 (Lx : Int)] 27 (0, 0)) ∧ w.heap[gy]? = some (.cells #[.int .i64 ky, .bool ny, .int .u64 (My : Int), .int .i64 Xy, .bool qy, .int .u64 (Ly : Int)] 27 (0, 0)))) (hy : My = D) (hs : Xx - Xy = s) (hs0 : (s : Int) ≤ 20000) (hX : -20000 ≤ Xx ∧ Xx ≤ 20000) (hD : 0 < D) (hD2 : D ≤ 4611686018427387904) (hM : Mx < 18446744073709551616)
    (hK : Hid (∀ a, At 135 [(5, .pointer (some ⟨gx, 0, none⟩)), (7, .int .u64 ((Mx * 2 ^ s % D : Nat) : Int)), (8, .int .u64 (D : Int)), (9, .int .i64 Xy), (10, .bool (Mx * 2 ^ s / D % 2 == 1))] a → Code.wp Try.prog (sq 7 body34) Q a w)) (ha : At 135 [(0, .int .u64 (a0 : Int)), (5, .pointer (some ⟨gx, 0, none⟩)), (6, .pointer (some ⟨gy, 0, none⟩)), (7, .int .u64 (Mx : Int)), (8, .int .u64 (D : Int)), (9, .int .i64 Xy), (10, .bool false)] a) : Code.wp Try.prog (sq 6 body34) Q a w := by
  subst hy
  have h0 : ((My : Int) == 0) = false := beq_eq_false_iff_ne.2 (by omega)
  have h0n : ¬ (My : Int) = 0 := by omega
  have hm1 : (Mx : Int).tmod (My : Int) = ((Mx % My : Nat) : Int) := by rw [Int.tmod_eq_emod_of_nonneg (Int.natCast_nonneg _), Int.natCast_emod]
  have hd1 : (Mx : Int).tdiv (My : Int) = ((Mx / My : Nat) : Int) := by rw [Int.tdiv_eq_ediv_of_nonneg (Int.natCast_nonneg _), Int.natCast_ediv]
  have hm1b : (Mx : Int) % (My : Int) = ((Mx % My : Nat) : Int) := (Int.natCast_emod _ _).symm
  have hd1b : (Mx : Int) / (My : Int) = ((Mx / My : Nat) : Int) := (Int.natCast_ediv _ _).symm
  have hq := Nat.div_le_self Mx My
  have hr := Nat.mod_lt Mx hD
  have hm2 := u64_small (Mx % My) (by omega)
  have hd2 := u64_small (Mx / My) (by omega)
  have hd3 : ((Mx / My : Nat) : Int).tmod 2 = ((Mx / My % 2 : Nat) : Int) := by
    rw [Int.tmod_eq_emod_of_nonneg (Int.natCast_nonneg _), Int.natCast_emod]; rfl
  have hd4 : (((Mx / My % 2 : Nat) : Int) == 1) = (Mx / My % 2 == 1) := by
    rcases two_cases (Nat.mod_lt (Mx / My) (by omega : 2 > 0)) with h | h <;> rw [h] <;> rfl
  have hd5 := u64_small (Mx / My % 2) (by omega)
  obtain ⟨rx, ry⟩ := hw.out
  obtain ⟨x0, x1, x2, x3, x4, x5⟩ := cells6 rx
  obtain ⟨y0, y1, y2, y3, y4, y5⟩ := cells6 ry
  clear rx ry
  have hge : Xy ≤ Xx := by omega
  obtain ⟨f, rfl, h0, h5, h6, h7, h8, h9, h10, -⟩ := ha.lit
  change Code.wp _ _ _ ⟨#[f 0, f 1, f 2, f 3, f 4, f 5, f 6, f 7, f 8, f 9, f 10, f 11, f 12, f 13, f 14, f 15, f 16, f 17, f 18, f 19, f 20, f 21, f 22, f 23, f 24, f 25, f 26, f 27, f 28, f 29, f 30, f 31, f 32, f 33, f 34, f 35, f 36, f 37, f 38, f 39, f 40, f 41, f 42, f 43, f 44, f 45, f 46, f 47, f 48, f 49, f 50, f 51, f 52, f 53, f 54, f 55, f 56, f 57, f 58, f 59, f 60, f 61, f 62, f 63, f 64, f 65, f 66, f 67, f 68, f 69, f 70, f 71, f 72, f 73, f 74, f 75, f 76, f 77, f 78, f 79, f 80, f 81, f 82, f 83, f 84, f 85, f 86, f 87, f 88, f 89, f 90, f 91, f 92, f 93, f 94, f 95, f 96, f 97, f 98, f 99, f 100, f 101, f 102, f 103, f 104, f 105, f 106, f 107, f 108, f 109, f 110, f 111, f 112, f 113, f 114, f 115, f 116, f 117, f 118, f 119, f 120, f 121, f 122, f 123, f 124, f 125, f 126, f 127, f 128, f 129, f 130, f 131, f 132, f 133, f 134], []⟩ _
  simp only at h0 h5 h6 h7 h8 h9 h10
  simp only [h0, h5, h6, h7, h8, h9, h10]
  clear h0 h5 h6 h7 h8 h9 h10
  change Code.wp _ (Code.seq (hd (sq 6 body34)) (sq 7 body34)) _ _ _
  generalize sq 7 body34 = REST at hK ⊢
  conv => arg 2; arg 1; whnf
  have hgm := show Hid (∀ i : Nat, i = 0 → Mx * 2 ^ i % My = Mx % My ∧ (Mx * 2 ^ i / My % 2 == 1) = (Mx / My % 2 == 1)) from fun i hi => by subst hi; rw [Nat.pow_zero, Nat.mul_one]; exact ⟨rfl, rfl⟩
  generalize he2 : (Mx / My % 2 == 1) = o at *
  generalize he3 : Mx / My % 2 = e2 at *
  generalize Mx / My = e1 at *
  generalize Mx % My = e0 at *
  have hXa := hX.1
  have hXb := hX.2
  have hD9 := show Hid _ from And.intro hD (And.intro hD2 (And.intro hs hs0))
  clear hD hD2 hM hq hr hX he3 he2 hs hs0
  go_wp2
  refine wp_loop_ghost_k (fun m a w' => ∃ i : Nat, i ≤ s ∧ m = s - i ∧ At 135 [(5, .pointer (some ⟨gx, 0, none⟩)), (6, .pointer (some ⟨gy, 0, none⟩)), (7, .int .u64 ((Mx * 2 ^ i % My : Nat) : Int)), (8, .int .u64 (My : Int)), (9, .int .i64 Xy), (10, .bool (Mx * 2 ^ i / My % 2 == 1)), (11, .int .i64 (Xx - i))] a ∧ w' = w) s ⟨0, Nat.zero_le _, rfl, by rw [(hgm.out 0 rfl).1, (hgm.out 0 rfl).2, show Xx - ((0 : Nat) : Int) = Xx by omega]; exact ⟨rfl, rfl, rfl, rfl, rfl, rfl, rfl, rfl, rfl, trivial⟩, rfl⟩ ?_
  obtain ⟨hD, hD2, hs, hs0⟩ := hD9.out
  clear hD9 hgm h0 h0n hm1 hd1 hm1b hd1b hm2 hd2 hd3 hd4 hd5 hge e0 e1 e2 o
  rintro m a w' ⟨i, hi, rfl, ha, rfl⟩ J0 K1 hJ hK1
  by_cases c : i < s
  · obtain ⟨st1, st2⟩ := rem_step (Mx * 2 ^ i) My hD
    have hr := Nat.mod_lt (Mx * 2 ^ i) hD
    have hnew : Mx * 2 ^ (i + 1) = Mx * 2 ^ i * 2 := by rw [Nat.pow_succ, Nat.mul_assoc]
    rw [← hnew] at st1 st2
    have hmul : IntKind.u64.wrap (((Mx * 2 ^ i % My : Nat) : Int) * 2) = ((Mx * 2 ^ i % My * 2 : Nat) : Int) := by
      have := u64_small (Mx * 2 ^ i % My * 2) (by omega)
      rw [Int.natCast_mul] at this
      rw [Int.natCast_mul]
      exact this
    generalize Mx * 2 ^ i % My = r at *
    generalize (Mx * 2 ^ i / My % 2 == 1) = o at *
    have hzb : Xy < Xx - (i : Int) ∧ -50000 ≤ Xx - (i : Int) ∧ Xx - (i : Int) ≤ 50000 := by omega
    obtain ⟨hz1, hz2, hz3⟩ := hzb
    generalize hz : Xx - (i : Int) = z at *
    have hz := show Hid _ from hz
    have hc := show Hid _ from c
    have hJ := show Hid _ from hJ
    by_cases cd : My ≤ r * 2
    · rw [if_pos cd] at st1
      rw [decide_eq_true cd] at st2
      have hst2 := show Hid _ from st2
      obtain ⟨r', hr'⟩ : ∃ r' : Nat, r * 2 - My = r' := ⟨_, rfl⟩
      rw [hr'] at st1
      have hst1 := show Hid _ from st1
      have cd' : (My : Int) ≤ ((r * 2 : Nat) : Int) := by omega
      have hsub : IntKind.u64.wrap (((r * 2 : Nat) : Int) - (My : Int)) = (r' : Int) := by
        rw [u64_wrap']; omega
      generalize r * 2 = r2 at *
      clear hi c hs hr hK hnew cd st1 st2 hD hD2 hr' hs0 hXa hXb
      obtain ⟨f, rfl, h5, h6, h7, h8, h9, h10, h11, -⟩ := ha.lit
      change Code.wp _ _ _ ⟨#[f 0, f 1, f 2, f 3, f 4, f 5, f 6, f 7, f 8, f 9, f 10, f 11, f 12, f 13, f 14, f 15, f 16, f 17, f 18, f 19, f 20, f 21, f 22, f 23, f 24, f 25, f 26, f 27, f 28, f 29, f 30, f 31, f 32, f 33, f 34, f 35, f 36, f 37, f 38, f 39, f 40, f 41, f 42, f 43, f 44, f 45, f 46, f 47, f 48, f 49, f 50, f 51, f 52, f 53, f 54, f 55, f 56, f 57, f 58, f 59, f 60, f 61, f 62, f 63, f 64, f 65, f 66, f 67, f 68, f 69, f 70, f 71, f 72, f 73, f 74, f 75, f 76, f 77, f 78, f 79, f 80, f 81, f 82, f 83, f 84, f 85, f 86, f 87, f 88, f 89, f 90, f 91, f 92, f 93, f 94, f 95, f 96, f 97, f 98, f 99, f 100, f 101, f 102, f 103, f 104, f 105, f 106, f 107, f 108, f 109, f 110, f 111, f 112, f 113, f 114, f 115, f 116, f 117, f 118, f 119, f 120, f 121, f 122, f 123, f 124, f 125, f 126, f 127, f 128, f 129, f 130, f 131, f 132, f 133, f 134], []⟩ _
      simp only at h5 h6 h7 h8 h9 h10 h11
      simp only [h5, h6, h7, h8, h9, h10, h11]
      clear h5 h6 h7 h8 h9 h10 h11
      go_wp2
      exact Handed.intro (s - (i + 1)) (by have := hc.out; omega) (hJ.out _ _ _ ⟨i + 1, hc.out, rfl, by rw [hst1.out, hst2.out, show Xx - ((i + 1 : Nat) : Int) = z - 1 by have := hz.out; omega]; exact ⟨rfl, rfl, rfl, rfl, rfl, rfl, rfl, rfl, rfl, trivial⟩, rfl⟩)
    · rw [if_neg cd] at st1
      rw [decide_eq_false cd] at st2
      have hst2 := show Hid _ from st2
      have hst1 := show Hid _ from st1
      have cd' : ¬ (My : Int) ≤ ((r * 2 : Nat) : Int) := by omega
      clear st1 st2
      generalize hr2 : r * 2 = r2 at *
      have hr2 := show Hid _ from hr2
      clear hi c hs hr hK hnew cd hD hD2 hs0 hXa hXb
      obtain ⟨f, rfl, h5, h6, h7, h8, h9, h10, h11, -⟩ := ha.lit
      change Code.wp _ _ _ ⟨#[f 0, f 1, f 2, f 3, f 4, f 5, f 6, f 7, f 8, f 9, f 10, f 11, f 12, f 13, f 14, f 15, f 16, f 17, f 18, f 19, f 20, f 21, f 22, f 23, f 24, f 25, f 26, f 27, f 28, f 29, f 30, f 31, f 32, f 33, f 34, f 35, f 36, f 37, f 38, f 39, f 40, f 41, f 42, f 43, f 44, f 45, f 46, f 47, f 48, f 49, f 50, f 51, f 52, f 53, f 54, f 55, f 56, f 57, f 58, f 59, f 60, f 61, f 62, f 63, f 64, f 65, f 66, f 67, f 68, f 69, f 70, f 71, f 72, f 73, f 74, f 75, f 76, f 77, f 78, f 79, f 80, f 81, f 82, f 83, f 84, f 85, f 86, f 87, f 88, f 89, f 90, f 91, f 92, f 93, f 94, f 95, f 96, f 97, f 98, f 99, f 100, f 101, f 102, f 103, f 104, f 105, f 106, f 107, f 108, f 109, f 110, f 111, f 112, f 113, f 114, f 115, f 116, f 117, f 118, f 119, f 120, f 121, f 122, f 123, f 124, f 125, f 126, f 127, f 128, f 129, f 130, f 131, f 132, f 133, f 134], []⟩ _
      simp only at h5 h6 h7 h8 h9 h10 h11
      simp only [h5, h6, h7, h8, h9, h10, h11]
      clear h5 h6 h7 h8 h9 h10 h11
      go_wp2
      exact Handed.intro (s - (i + 1)) (by have := hc.out; omega) (hJ.out _ _ _ ⟨i + 1, hc.out, rfl, by rw [hst1.out, hst2.out, show Xx - ((i + 1 : Nat) : Int) = z - 1 by have := hz.out; omega]; exact ⟨rfl, rfl, rfl, rfl, rfl, rfl, rfl, rfl, rfl, trivial⟩, rfl⟩)
  · have his : i = s := by omega
    subst his
    have hz0 : Xx - (i : Int) = Xy := by omega
    rw [hz0] at ha
    clear c hi hJ hK1 hs hD hD2 hs0 hXa hXb hz0
    generalize Mx * 2 ^ i % My = r at *
    generalize (Mx * 2 ^ i / My % 2 == 1) = o at *
    obtain ⟨f, rfl, h5, h6, h7, h8, h9, h10, h11, -⟩ := ha.lit
    change Code.wp _ _ _ ⟨#[f 0, f 1, f 2, f 3, f 4, f 5, f 6, f 7, f 8, f 9, f 10, f 11, f 12, f 13, f 14, f 15, f 16, f 17, f 18, f 19, f 20, f 21, f 22, f 23, f 24, f 25, f 26, f 27, f 28, f 29, f 30, f 31, f 32, f 33, f 34, f 35, f 36, f 37, f 38, f 39, f 40, f 41, f 42, f 43, f 44, f 45, f 46, f 47, f 48, f 49, f 50, f 51, f 52, f 53, f 54, f 55, f 56, f 57, f 58, f 59, f 60, f 61, f 62, f 63, f 64, f 65, f 66, f 67, f 68, f 69, f 70, f 71, f 72, f 73, f 74, f 75, f 76, f 77, f 78, f 79, f 80, f 81, f 82, f 83, f 84, f 85, f 86, f 87, f 88, f 89, f 90, f 91, f 92, f 93, f 94, f 95, f 96, f 97, f 98, f 99, f 100, f 101, f 102, f 103, f 104, f 105, f 106, f 107, f 108, f 109, f 110, f 111, f 112, f 113, f 114, f 115, f 116, f 117, f 118, f 119, f 120, f 121, f 122, f 123, f 124, f 125, f 126, f 127, f 128, f 129, f 130, f 131, f 132, f 133, f 134], []⟩ _
    simp only at h5 h6 h7 h8 h9 h10 h11
    simp only [h5, h6, h7, h8, h9, h10, h11]
    clear h5 h6 h7 h8 h9 h10 h11
    go_wp2
    exact hK.out _ ⟨rfl, rfl, rfl, rfl, rfl, rfl, rfl, trivial⟩
set_option maxRecDepth 100000 in
set_option maxHeartbeats 2000000 in
theorem rr_d {Q : Exit → Act → World → Prop} (kx Xx : Int) (nx qx : Bool) (Mx Lx : Nat) (ky Xy : Int) (ny qy : Bool) (My Ly : Nat) (D d a0 gx gy : Nat) (a : Act) (w : World) (hw : Hid (w.heap[gx]? = some (.cells #[.int .i64 kx, .bool nx, .int .u64 (Mx : Int), .int .i64 Xx, .bool qx, .int .u64 (Lx : Int)] 27 (0, 0)) ∧ w.heap[gy]? = some (.cells #[.int .i64 ky, .bool ny, .int .u64 (My : Int), .int .i64 Xy, .bool qy, .int .u64 (Ly : Int)] 27 (0, 0)))) (hd : Xy - Xx = d) (hd0 : 1 ≤ d) (hd1 : (d : Int) ≤ 20000) (hX : -20000 ≤ Xx ∧ Xx ≤ 20000) (hgo : ∀ i, i < d → My * 2 ^ i ≤ 36028797018963968) (hD1 : My * 2 ^ d = D) (hD : 0 < D) (hD2 : D < 18446744073709551616) (hM : Mx < 18446744073709551616)
    (hK : Hid (∀ a, At 135 [(5, .pointer (some ⟨gx, 0, none⟩)), (7, .int .u64 ((Mx % D : Nat) : Int)), (8, .int .u64 (D : Int)), (9, .int .i64 Xx), (10, .bool (Mx / D % 2 == 1))] a → Code.wp Try.prog (sq 7 body34) Q a w)) (ha : At 135 [(0, .int .u64 (a0 : Int)), (5, .pointer (some ⟨gx, 0, none⟩)), (6, .pointer (some ⟨gy, 0, none⟩)), (7, .int .u64 (Mx : Int)), (8, .int .u64 (My : Int)), (9, .int .i64 Xy), (10, .bool false)] a) : Code.wp Try.prog (sq 6 body34) Q a w := by
  have hd' := show Hid (Xy - Xx = d) from hd
  clear hd
  obtain ⟨rx, ry⟩ := hw.out
  obtain ⟨x0, x1, x2, x3, x4, x5⟩ := cells6 rx
  obtain ⟨y0, y1, y2, y3, y4, y5⟩ := cells6 ry
  clear rx ry
  have hlt : Xx < Xy := by have := hd'.out; omega
  obtain ⟨f, rfl, h0, h5, h6, h7, h8, h9, h10, -⟩ := ha.lit
  change Code.wp _ _ _ ⟨#[f 0, f 1, f 2, f 3, f 4, f 5, f 6, f 7, f 8, f 9, f 10, f 11, f 12, f 13, f 14, f 15, f 16, f 17, f 18, f 19, f 20, f 21, f 22, f 23, f 24, f 25, f 26, f 27, f 28, f 29, f 30, f 31, f 32, f 33, f 34, f 35, f 36, f 37, f 38, f 39, f 40, f 41, f 42, f 43, f 44, f 45, f 46, f 47, f 48, f 49, f 50, f 51, f 52, f 53, f 54, f 55, f 56, f 57, f 58, f 59, f 60, f 61, f 62, f 63, f 64, f 65, f 66, f 67, f 68, f 69, f 70, f 71, f 72, f 73, f 74, f 75, f 76, f 77, f 78, f 79, f 80, f 81, f 82, f 83, f 84, f 85, f 86, f 87, f 88, f 89, f 90, f 91, f 92, f 93, f 94, f 95, f 96, f 97, f 98, f 99, f 100, f 101, f 102, f 103, f 104, f 105, f 106, f 107, f 108, f 109, f 110, f 111, f 112, f 113, f 114, f 115, f 116, f 117, f 118, f 119, f 120, f 121, f 122, f 123, f 124, f 125, f 126, f 127, f 128, f 129, f 130, f 131, f 132, f 133, f 134], []⟩ _
  simp only at h0 h5 h6 h7 h8 h9 h10
  simp only [h0, h5, h6, h7, h8, h9, h10]
  clear h0 h5 h6 h7 h8 h9 h10
  change Code.wp _ (Code.seq (hd (sq 6 body34)) (sq 7 body34)) _ _ _
  generalize sq 7 body34 = REST at hK ⊢
  conv => arg 2; arg 1; whnf
  obtain ⟨hXa, hXb⟩ := hX
  have hall := show Hid _ from And.intro hgo (And.intro hD1 (And.intro hD (And.intro hD2 hM)))
  have hd3 := show Hid _ from And.intro hd0 hd1
  clear hgo hD1 hD hD2 hM hd0 hd1
  go_wp2
  refine wp_loop_ghost_k (fun m a w' => ∃ i : Nat, i ≤ d ∧ m = d - i ∧ At 135 [(0, .int .u64 (a0 : Int)), (5, .pointer (some ⟨gx, 0, none⟩)), (6, .pointer (some ⟨gy, 0, none⟩)), (7, .int .u64 (Mx : Int)), (8, .int .u64 ((My * 2 ^ i : Nat) : Int)), (12, .int .i64 (Xx + i))] a ∧ w' = w) d ⟨0, Nat.zero_le _, rfl, by rw [Nat.pow_zero, Nat.mul_one, show Xx + ((0 : Nat) : Int) = Xx by omega]; exact ⟨rfl, rfl, rfl, rfl, rfl, rfl, rfl, rfl, trivial⟩, rfl⟩ ?_
  obtain ⟨hgo, hD1, hD, hD2, hM⟩ := hall.out
  obtain ⟨hd0, hd1⟩ := hd3.out
  have hdd := hd'.out
  clear hall hd3 hd' hlt
  rintro m a w' ⟨i, hi, rfl, ha, rfl⟩ J0 K1 hJ hK1
  by_cases c : i < d
  · have hle := hgo i c
    have hnew : My * 2 ^ (i + 1) = My * 2 ^ i * 2 := by rw [Nat.pow_succ, Nat.mul_assoc]
    have hmul : IntKind.u64.wrap (((My * 2 ^ i : Nat) : Int) * 2) = ((My * 2 ^ (i + 1) : Nat) : Int) := by
      have := u64_small (My * 2 ^ i * 2) (by omega)
      rw [Int.natCast_mul] at this
      rw [hnew, Int.natCast_mul]
      exact this
    generalize ha' : My * 2 ^ (i + 1) = a' at *
    generalize My * 2 ^ i = b0 at *
    have ha' := show Hid _ from ha'
    have hle' : ¬ (36028797018963968 : Int) < (b0 : Int) := by omega
    have hzb : Xx + (i : Int) < Xy ∧ -50000 ≤ Xx + (i : Int) ∧ Xx + (i : Int) ≤ 50000 := by omega
    obtain ⟨hz1, hz2, hz3⟩ := hzb
    generalize hz : Xx + (i : Int) = z at *
    have hz := show Hid _ from hz
    have hc := show Hid _ from c
    have hJ := show Hid _ from hJ
    clear hi c hle hnew hgo hD1 hD hD2 hM hd0 hd1 hdd hK hXa hXb
    obtain ⟨f, rfl, h0, h5, h6, h7, h8, h12, -⟩ := ha.lit
    change Code.wp _ _ _ ⟨#[f 0, f 1, f 2, f 3, f 4, f 5, f 6, f 7, f 8, f 9, f 10, f 11, f 12, f 13, f 14, f 15, f 16, f 17, f 18, f 19, f 20, f 21, f 22, f 23, f 24, f 25, f 26, f 27, f 28, f 29, f 30, f 31, f 32, f 33, f 34, f 35, f 36, f 37, f 38, f 39, f 40, f 41, f 42, f 43, f 44, f 45, f 46, f 47, f 48, f 49, f 50, f 51, f 52, f 53, f 54, f 55, f 56, f 57, f 58, f 59, f 60, f 61, f 62, f 63, f 64, f 65, f 66, f 67, f 68, f 69, f 70, f 71, f 72, f 73, f 74, f 75, f 76, f 77, f 78, f 79, f 80, f 81, f 82, f 83, f 84, f 85, f 86, f 87, f 88, f 89, f 90, f 91, f 92, f 93, f 94, f 95, f 96, f 97, f 98, f 99, f 100, f 101, f 102, f 103, f 104, f 105, f 106, f 107, f 108, f 109, f 110, f 111, f 112, f 113, f 114, f 115, f 116, f 117, f 118, f 119, f 120, f 121, f 122, f 123, f 124, f 125, f 126, f 127, f 128, f 129, f 130, f 131, f 132, f 133, f 134], []⟩ _
    simp only at h0 h5 h6 h7 h8 h12
    simp only [h0, h5, h6, h7, h8, h12]
    clear h0 h5 h6 h7 h8 h12
    go_wp2
    exact Handed.intro (d - (i + 1)) (by have := hc.out; omega) (hJ.out _ _ _ ⟨i + 1, hc.out, rfl, by rw [ha'.out, show Xx + ((i + 1 : Nat) : Int) = z + 1 by have := hz.out; omega]; exact ⟨rfl, rfl, rfl, rfl, rfl, rfl, rfl, rfl, trivial⟩, rfl⟩)
  · have hiT : i = d := by omega
    subst hiT
    have hz0 : Xx + (i : Int) = Xy := by omega
    rw [hz0, hD1] at ha
    have h0 : ((D : Int) == 0) = false := beq_eq_false_iff_ne.2 (by omega)
    have h0n : ¬ (D : Int) = 0 := by omega
    have hm1 : (Mx : Int).tmod (D : Int) = ((Mx % D : Nat) : Int) := by rw [Int.tmod_eq_emod_of_nonneg (Int.natCast_nonneg _), Int.natCast_emod]
    have hd1 : (Mx : Int).tdiv (D : Int) = ((Mx / D : Nat) : Int) := by rw [Int.tdiv_eq_ediv_of_nonneg (Int.natCast_nonneg _), Int.natCast_ediv]
    have hm1b : (Mx : Int) % (D : Int) = ((Mx % D : Nat) : Int) := (Int.natCast_emod _ _).symm
    have hd1b : (Mx : Int) / (D : Int) = ((Mx / D : Nat) : Int) := (Int.natCast_ediv _ _).symm
    have hq := Nat.div_le_self Mx D
    have hr := Nat.mod_lt Mx hD
    have hm2 := u64_small (Mx % D) (by omega)
    have hd2 := u64_small (Mx / D) (by omega)
    have hd3 : ((Mx / D : Nat) : Int).tmod 2 = ((Mx / D % 2 : Nat) : Int) := by
      rw [Int.tmod_eq_emod_of_nonneg (Int.natCast_nonneg _), Int.natCast_emod]; rfl
    have hd4 : (((Mx / D % 2 : Nat) : Int) == 1) = (Mx / D % 2 == 1) := by
      rcases two_cases (Nat.mod_lt (Mx / D) (by omega : 2 > 0)) with h | h <;> rw [h] <;> rfl
    have hd5 := u64_small (Mx / D % 2) (by omega)
    generalize (Mx / D % 2 == 1) = o at *
    generalize Mx / D % 2 = e2 at *
    generalize Mx / D = e1 at *
    generalize Mx % D = e0 at *
    clear c hi hJ hK1 hgo hD1 hD hD2 hM hd0 hd1 hdd hXa hXb hz0 hq hr
    obtain ⟨f, rfl, h0, h5, h6, h7, h8, h12, -⟩ := ha.lit
    change Code.wp _ _ _ ⟨#[f 0, f 1, f 2, f 3, f 4, f 5, f 6, f 7, f 8, f 9, f 10, f 11, f 12, f 13, f 14, f 15, f 16, f 17, f 18, f 19, f 20, f 21, f 22, f 23, f 24, f 25, f 26, f 27, f 28, f 29, f 30, f 31, f 32, f 33, f 34, f 35, f 36, f 37, f 38, f 39, f 40, f 41, f 42, f 43, f 44, f 45, f 46, f 47, f 48, f 49, f 50, f 51, f 52, f 53, f 54, f 55, f 56, f 57, f 58, f 59, f 60, f 61, f 62, f 63, f 64, f 65, f 66, f 67, f 68, f 69, f 70, f 71, f 72, f 73, f 74, f 75, f 76, f 77, f 78, f 79, f 80, f 81, f 82, f 83, f 84, f 85, f 86, f 87, f 88, f 89, f 90, f 91, f 92, f 93, f 94, f 95, f 96, f 97, f 98, f 99, f 100, f 101, f 102, f 103, f 104, f 105, f 106, f 107, f 108, f 109, f 110, f 111, f 112, f 113, f 114, f 115, f 116, f 117, f 118, f 119, f 120, f 121, f 122, f 123, f 124, f 125, f 126, f 127, f 128, f 129, f 130, f 131, f 132, f 133, f 134], []⟩ _
    simp only at h0 h5 h6 h7 h8 h12
    simp only [h0, h5, h6, h7, h8, h12]
    clear h0 h5 h6 h7 h8 h12
    go_wp2
    exact hK.out _ ⟨rfl, rfl, rfl, rfl, rfl, rfl, rfl, trivial⟩
set_option maxRecDepth 100000 in
set_option maxHeartbeats 2000000 in
theorem rr_r (kx Xx : Int) (nx qx : Bool) (Mx Lx : Nat) (ky Xy : Int) (ny qy : Bool) (My Ly : Nat) (d a0 gx gy : Nat) (a : Act) (w0 w : World) (B : Hid (Below w0.heap.size w0 w)) (hw : Hid (w.heap[gx]? = some (.cells #[.int .i64 kx, .bool nx, .int .u64 (Mx : Int), .int .i64 Xx, .bool qx, .int .u64 (Lx : Int)] 27 (0, 0)) ∧ w.heap[gy]? = some (.cells #[.int .i64 ky, .bool ny, .int .u64 (My : Int), .int .i64 Xy, .bool qy, .int .u64 (Ly : Int)] 27 (0, 0)))) (hd : Xy - Xx = d) (hd0 : 1 ≤ d) (hd1 : (d : Int) ≤ 20000) (hX : -20000 ≤ Xx ∧ Xx ≤ 20000) (t : Nat) (ht : t < d) (hgo : ∀ i, i < t → My * 2 ^ i ≤ 36028797018963968) (hst : 36028797018963968 < My * 2 ^ t) (hst2 : My * 2 ^ t < 18446744073709551616)
     (ha : At 135 [(0, .int .u64 (a0 : Int)), (5, .pointer (some ⟨gx, 0, none⟩)), (6, .pointer (some ⟨gy, 0, none⟩)), (7, .int .u64 (Mx : Int)), (8, .int .u64 (My : Int)), (9, .int .i64 Xy), (10, .bool false)] a) : Code.wp Try.prog (sq 6 body34) (bodyPost Try.prog Try.f34 fun e w' => e = .returned (.int .u64 (a0 : Int)) ∧ Below w0.heap.size w0 w') a w := by
  have hd' := show Hid (Xy - Xx = d) from hd
  clear hd
  obtain ⟨rx, ry⟩ := hw.out
  obtain ⟨x0, x1, x2, x3, x4, x5⟩ := cells6 rx
  obtain ⟨y0, y1, y2, y3, y4, y5⟩ := cells6 ry
  clear rx ry
  have hlt : Xx < Xy := by have := hd'.out; omega
  obtain ⟨f, rfl, h0, h5, h6, h7, h8, h9, h10, -⟩ := ha.lit
  change Code.wp _ _ _ ⟨#[f 0, f 1, f 2, f 3, f 4, f 5, f 6, f 7, f 8, f 9, f 10, f 11, f 12, f 13, f 14, f 15, f 16, f 17, f 18, f 19, f 20, f 21, f 22, f 23, f 24, f 25, f 26, f 27, f 28, f 29, f 30, f 31, f 32, f 33, f 34, f 35, f 36, f 37, f 38, f 39, f 40, f 41, f 42, f 43, f 44, f 45, f 46, f 47, f 48, f 49, f 50, f 51, f 52, f 53, f 54, f 55, f 56, f 57, f 58, f 59, f 60, f 61, f 62, f 63, f 64, f 65, f 66, f 67, f 68, f 69, f 70, f 71, f 72, f 73, f 74, f 75, f 76, f 77, f 78, f 79, f 80, f 81, f 82, f 83, f 84, f 85, f 86, f 87, f 88, f 89, f 90, f 91, f 92, f 93, f 94, f 95, f 96, f 97, f 98, f 99, f 100, f 101, f 102, f 103, f 104, f 105, f 106, f 107, f 108, f 109, f 110, f 111, f 112, f 113, f 114, f 115, f 116, f 117, f 118, f 119, f 120, f 121, f 122, f 123, f 124, f 125, f 126, f 127, f 128, f 129, f 130, f 131, f 132, f 133, f 134], []⟩ _
  simp only at h0 h5 h6 h7 h8 h9 h10
  simp only [h0, h5, h6, h7, h8, h9, h10]
  clear h0 h5 h6 h7 h8 h9 h10
  conv => arg 2; whnf
  obtain ⟨hXa, hXb⟩ := hX
  have hall := show Hid _ from And.intro hgo (And.intro hst (And.intro hst2 ht))
  have hd3 := show Hid _ from And.intro hd0 hd1
  clear hgo hst hst2 ht hd0 hd1
  go_wp2
  refine wp_loop_ghost_k (fun m a w' => ∃ i : Nat, i ≤ t ∧ m = t - i ∧ At 135 [(0, .int .u64 (a0 : Int)), (5, .pointer (some ⟨gx, 0, none⟩)), (6, .pointer (some ⟨gy, 0, none⟩)), (7, .int .u64 (Mx : Int)), (8, .int .u64 ((My * 2 ^ i : Nat) : Int)), (12, .int .i64 (Xx + i))] a ∧ w' = w) t ⟨0, Nat.zero_le _, rfl, by rw [Nat.pow_zero, Nat.mul_one, show Xx + ((0 : Nat) : Int) = Xx by omega]; exact ⟨rfl, rfl, rfl, rfl, rfl, rfl, rfl, rfl, trivial⟩, rfl⟩ ?_
  obtain ⟨hgo, hst, hst2, ht⟩ := hall.out
  obtain ⟨hd0, hd1⟩ := hd3.out
  have hdd := hd'.out
  clear hall hd3 hd' hlt
  rintro m a w' ⟨i, hi, rfl, ha, rfl⟩ J0 K1 hJ hK1
  by_cases c : i < t
  · have hle := hgo i c
    have hnew : My * 2 ^ (i + 1) = My * 2 ^ i * 2 := by rw [Nat.pow_succ, Nat.mul_assoc]
    have hmul : IntKind.u64.wrap (((My * 2 ^ i : Nat) : Int) * 2) = ((My * 2 ^ (i + 1) : Nat) : Int) := by
      have := u64_small (My * 2 ^ i * 2) (by omega)
      rw [Int.natCast_mul] at this
      rw [hnew, Int.natCast_mul]
      exact this
    generalize ha' : My * 2 ^ (i + 1) = a' at *
    generalize My * 2 ^ i = b0 at *
    have ha' := show Hid _ from ha'
    have hle' : ¬ (36028797018963968 : Int) < (b0 : Int) := by omega
    have hzb : Xx + (i : Int) < Xy ∧ -50000 ≤ Xx + (i : Int) ∧ Xx + (i : Int) ≤ 50000 := by omega
    obtain ⟨hz1, hz2, hz3⟩ := hzb
    generalize hz : Xx + (i : Int) = z at *
    have hz := show Hid _ from hz
    have hc := show Hid _ from c
    have hJ := show Hid _ from hJ
    clear hi c hle hnew hgo hst hst2 ht hd0 hd1 hdd hXa hXb
    obtain ⟨f, rfl, h0, h5, h6, h7, h8, h12, -⟩ := ha.lit
    change Code.wp _ _ _ ⟨#[f 0, f 1, f 2, f 3, f 4, f 5, f 6, f 7, f 8, f 9, f 10, f 11, f 12, f 13, f 14, f 15, f 16, f 17, f 18, f 19, f 20, f 21, f 22, f 23, f 24, f 25, f 26, f 27, f 28, f 29, f 30, f 31, f 32, f 33, f 34, f 35, f 36, f 37, f 38, f 39, f 40, f 41, f 42, f 43, f 44, f 45, f 46, f 47, f 48, f 49, f 50, f 51, f 52, f 53, f 54, f 55, f 56, f 57, f 58, f 59, f 60, f 61, f 62, f 63, f 64, f 65, f 66, f 67, f 68, f 69, f 70, f 71, f 72, f 73, f 74, f 75, f 76, f 77, f 78, f 79, f 80, f 81, f 82, f 83, f 84, f 85, f 86, f 87, f 88, f 89, f 90, f 91, f 92, f 93, f 94, f 95, f 96, f 97, f 98, f 99, f 100, f 101, f 102, f 103, f 104, f 105, f 106, f 107, f 108, f 109, f 110, f 111, f 112, f 113, f 114, f 115, f 116, f 117, f 118, f 119, f 120, f 121, f 122, f 123, f 124, f 125, f 126, f 127, f 128, f 129, f 130, f 131, f 132, f 133, f 134], []⟩ _
    simp only at h0 h5 h6 h7 h8 h12
    simp only [h0, h5, h6, h7, h8, h12]
    clear h0 h5 h6 h7 h8 h12
    go_wp2
    exact Handed.intro (t - (i + 1)) (by have := hc.out; omega) (hJ.out _ _ _ ⟨i + 1, hc.out, rfl, by rw [ha'.out, show Xx + ((i + 1 : Nat) : Int) = z + 1 by have := hz.out; omega]; exact ⟨rfl, rfl, rfl, rfl, rfl, rfl, rfl, rfl, trivial⟩, rfl⟩)
  · have hiT : i = t := by omega
    subst hiT
    have hst' : (36028797018963968 : Int) < ((My * 2 ^ i : Nat) : Int) := by omega
    have hz1 : Xx + (i : Int) < Xy := by omega
    generalize Xx + (i : Int) = z at *
    generalize My * 2 ^ i = b0 at *
    clear c hi hJ hK1 hgo hst hst2 hd0 hd1 hdd hXa hXb ht
    obtain ⟨f, rfl, h0, h5, h6, h7, h8, h12, -⟩ := ha.lit
    change Code.wp _ _ _ ⟨#[f 0, f 1, f 2, f 3, f 4, f 5, f 6, f 7, f 8, f 9, f 10, f 11, f 12, f 13, f 14, f 15, f 16, f 17, f 18, f 19, f 20, f 21, f 22, f 23, f 24, f 25, f 26, f 27, f 28, f 29, f 30, f 31, f 32, f 33, f 34, f 35, f 36, f 37, f 38, f 39, f 40, f 41, f 42, f 43, f 44, f 45, f 46, f 47, f 48, f 49, f 50, f 51, f 52, f 53, f 54, f 55, f 56, f 57, f 58, f 59, f 60, f 61, f 62, f 63, f 64, f 65, f 66, f 67, f 68, f 69, f 70, f 71, f 72, f 73, f 74, f 75, f 76, f 77, f 78, f 79, f 80, f 81, f 82, f 83, f 84, f 85, f 86, f 87, f 88, f 89, f 90, f 91, f 92, f 93, f 94, f 95, f 96, f 97, f 98, f 99, f 100, f 101, f 102, f 103, f 104, f 105, f 106, f 107, f 108, f 109, f 110, f 111, f 112, f 113, f 114, f 115, f 116, f 117, f 118, f 119, f 120, f 121, f 122, f 123, f 124, f 125, f 126, f 127, f 128, f 129, f 130, f 131, f 132, f 133, f 134], []⟩ _
    simp only at h0 h5 h6 h7 h8 h12
    simp only [h0, h5, h6, h7, h8, h12]
    clear h0 h5 h6 h7 h8 h12
    go_wp2
    go_ret
    exact ⟨rfl, B.out⟩
end Go.Proofs.Ytjcjecbffnadaab
