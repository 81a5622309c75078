/-
  Remainders: the document's and the code's are the same; what the statement asks is true. Condition: the floats' bits fit.
-/
import Derived.Test.YtjcjecbffnadaabRc1
import Derived.Test.YtjcjecbffnadaabFp
namespace Go.Proofs.Ytjcjecbffnadaab
open Go.RowKit
set_option maxRecDepth 100000 in
set_option maxHeartbeats 2000000 in
theorem rt_n1 {Q : Exit → Act → World → Prop} (kx Xx : Int) (nx qx : Bool) (Mx Lx : Nat) (D r gx : Nat) (e0 : Int) (o : Bool) (a : Act) (w : World) (rx : Hid (w.heap[gx]? = some (.cells #[.int .i64 kx, .bool nx, .int .u64 (Mx : Int), .int .i64 Xx, .bool qx, .int .u64 (Lx : Int)] 27 (0, 0)))) (r2 : Nat) (hm : IntKind.u64.wrap (2 * (r : Int)) = (r2 : Int)) (h1 : ¬ (D : Int) < (r2 : Int)) (h2 : ((r2 : Int) == (D : Int)) = false) (hK : Hid (∀ a, At 135 [(5, .pointer (some ⟨gx, 0, none⟩)), (7, .int .u64 (r : Int)), (9, .int .i64 e0), (13, .bool nx)] a → Code.wp Try.prog (sq 9 body34) Q a w)) (ha : At 135 [(5, .pointer (some ⟨gx, 0, none⟩)), (7, .int .u64 (r : Int)), (8, .int .u64 (D : Int)), (9, .int .i64 e0), (10, .bool o)] a) : Code.wp Try.prog (sq 7 body34) Q a w := by
  obtain ⟨x0, x1, x2, x3, x4, x5⟩ := cells6 rx.out
  obtain ⟨f, rfl, h5, h7, h8, h9, h10, -⟩ := ha.lit
  change Code.wp _ _ _ ⟨#[f 0, f 1, f 2, f 3, f 4, f 5, f 6, f 7, f 8, f 9, f 10, f 11, f 12, f 13, f 14, f 15, f 16, f 17, f 18, f 19, f 20, f 21, f 22, f 23, f 24, f 25, f 26, f 27, f 28, f 29, f 30, f 31, f 32, f 33, f 34, f 35, f 36, f 37, f 38, f 39, f 40, f 41, f 42, f 43, f 44, f 45, f 46, f 47, f 48, f 49, f 50, f 51, f 52, f 53, f 54, f 55, f 56, f 57, f 58, f 59, f 60, f 61, f 62, f 63, f 64, f 65, f 66, f 67, f 68, f 69, f 70, f 71, f 72, f 73, f 74, f 75, f 76, f 77, f 78, f 79, f 80, f 81, f 82, f 83, f 84, f 85, f 86, f 87, f 88, f 89, f 90, f 91, f 92, f 93, f 94, f 95, f 96, f 97, f 98, f 99, f 100, f 101, f 102, f 103, f 104, f 105, f 106, f 107, f 108, f 109, f 110, f 111, f 112, f 113, f 114, f 115, f 116, f 117, f 118, f 119, f 120, f 121, f 122, f 123, f 124, f 125, f 126, f 127, f 128, f 129, f 130, f 131, f 132, f 133, f 134], []⟩ _
  simp only at h5 h7 h8 h9 h10
  simp only [h5, h7, h8, h9, h10]
  clear h5 h7 h8 h9 h10
  change Code.wp _ (Code.seq (hd (sq 7 body34)) (Code.seq (hd (sq 8 body34)) (sq 9 body34))) _ _ _
  generalize sq 9 body34 = REST at hK ⊢
  conv => arg 2; arg 1; whnf
  conv => arg 2; arg 2; arg 1; whnf
  go_wp2
  exact hK.out _ ⟨rfl, rfl, rfl, rfl, rfl, rfl, trivial⟩
set_option maxRecDepth 100000 in
set_option maxHeartbeats 2000000 in
theorem rt_n2 {Q : Exit → Act → World → Prop} (kx Xx : Int) (nx qx : Bool) (Mx Lx : Nat) (D r gx : Nat) (e0 : Int) (o : Bool) (a : Act) (w : World) (rx : Hid (w.heap[gx]? = some (.cells #[.int .i64 kx, .bool nx, .int .u64 (Mx : Int), .int .i64 Xx, .bool qx, .int .u64 (Lx : Int)] 27 (0, 0)))) (r2 : Nat) (hm : IntKind.u64.wrap (2 * (r : Int)) = (r2 : Int)) (h1 : (r2 : Int) = (D : Int)) (ho : o = false) (hK : Hid (∀ a, At 135 [(5, .pointer (some ⟨gx, 0, none⟩)), (7, .int .u64 (r : Int)), (9, .int .i64 e0), (13, .bool nx)] a → Code.wp Try.prog (sq 9 body34) Q a w)) (ha : At 135 [(5, .pointer (some ⟨gx, 0, none⟩)), (7, .int .u64 (r : Int)), (8, .int .u64 (D : Int)), (9, .int .i64 e0), (10, .bool o)] a) : Code.wp Try.prog (sq 7 body34) Q a w := by
  subst ho
  obtain ⟨x0, x1, x2, x3, x4, x5⟩ := cells6 rx.out
  obtain ⟨f, rfl, h5, h7, h8, h9, h10, -⟩ := ha.lit
  change Code.wp _ _ _ ⟨#[f 0, f 1, f 2, f 3, f 4, f 5, f 6, f 7, f 8, f 9, f 10, f 11, f 12, f 13, f 14, f 15, f 16, f 17, f 18, f 19, f 20, f 21, f 22, f 23, f 24, f 25, f 26, f 27, f 28, f 29, f 30, f 31, f 32, f 33, f 34, f 35, f 36, f 37, f 38, f 39, f 40, f 41, f 42, f 43, f 44, f 45, f 46, f 47, f 48, f 49, f 50, f 51, f 52, f 53, f 54, f 55, f 56, f 57, f 58, f 59, f 60, f 61, f 62, f 63, f 64, f 65, f 66, f 67, f 68, f 69, f 70, f 71, f 72, f 73, f 74, f 75, f 76, f 77, f 78, f 79, f 80, f 81, f 82, f 83, f 84, f 85, f 86, f 87, f 88, f 89, f 90, f 91, f 92, f 93, f 94, f 95, f 96, f 97, f 98, f 99, f 100, f 101, f 102, f 103, f 104, f 105, f 106, f 107, f 108, f 109, f 110, f 111, f 112, f 113, f 114, f 115, f 116, f 117, f 118, f 119, f 120, f 121, f 122, f 123, f 124, f 125, f 126, f 127, f 128, f 129, f 130, f 131, f 132, f 133, f 134], []⟩ _
  simp only at h5 h7 h8 h9 h10
  simp only [h5, h7, h8, h9, h10]
  clear h5 h7 h8 h9 h10
  change Code.wp _ (Code.seq (hd (sq 7 body34)) (Code.seq (hd (sq 8 body34)) (sq 9 body34))) _ _ _
  generalize sq 9 body34 = REST at hK ⊢
  conv => arg 2; arg 1; whnf
  conv => arg 2; arg 2; arg 1; whnf
  go_wp2
  exact hK.out _ ⟨rfl, rfl, rfl, rfl, rfl, rfl, trivial⟩
set_option maxRecDepth 100000 in
set_option maxHeartbeats 2000000 in
theorem rt_y1 {Q : Exit → Act → World → Prop} (kx Xx : Int) (nx qx : Bool) (Mx Lx : Nat) (D r gx : Nat) (e0 : Int) (o : Bool) (a : Act) (w : World) (rx : Hid (w.heap[gx]? = some (.cells #[.int .i64 kx, .bool nx, .int .u64 (Mx : Int), .int .i64 Xx, .bool qx, .int .u64 (Lx : Int)] 27 (0, 0)))) (r2 : Nat) (r3 : Nat) (h3 : IntKind.u64.wrap ((D : Int) - (r : Int)) = (r3 : Int)) (hm : IntKind.u64.wrap (2 * (r : Int)) = (r2 : Int)) (h1 : (D : Int) < (r2 : Int)) (hK : Hid (∀ a, At 135 [(5, .pointer (some ⟨gx, 0, none⟩)), (7, .int .u64 (r3 : Int)), (9, .int .i64 e0), (13, .bool (!nx))] a → Code.wp Try.prog (sq 9 body34) Q a w)) (ha : At 135 [(5, .pointer (some ⟨gx, 0, none⟩)), (7, .int .u64 (r : Int)), (8, .int .u64 (D : Int)), (9, .int .i64 e0), (10, .bool o)] a) : Code.wp Try.prog (sq 7 body34) Q a w := by
  obtain ⟨x0, x1, x2, x3, x4, x5⟩ := cells6 rx.out
  obtain ⟨f, rfl, h5, h7, h8, h9, h10, -⟩ := ha.lit
  change Code.wp _ _ _ ⟨#[f 0, f 1, f 2, f 3, f 4, f 5, f 6, f 7, f 8, f 9, f 10, f 11, f 12, f 13, f 14, f 15, f 16, f 17, f 18, f 19, f 20, f 21, f 22, f 23, f 24, f 25, f 26, f 27, f 28, f 29, f 30, f 31, f 32, f 33, f 34, f 35, f 36, f 37, f 38, f 39, f 40, f 41, f 42, f 43, f 44, f 45, f 46, f 47, f 48, f 49, f 50, f 51, f 52, f 53, f 54, f 55, f 56, f 57, f 58, f 59, f 60, f 61, f 62, f 63, f 64, f 65, f 66, f 67, f 68, f 69, f 70, f 71, f 72, f 73, f 74, f 75, f 76, f 77, f 78, f 79, f 80, f 81, f 82, f 83, f 84, f 85, f 86, f 87, f 88, f 89, f 90, f 91, f 92, f 93, f 94, f 95, f 96, f 97, f 98, f 99, f 100, f 101, f 102, f 103, f 104, f 105, f 106, f 107, f 108, f 109, f 110, f 111, f 112, f 113, f 114, f 115, f 116, f 117, f 118, f 119, f 120, f 121, f 122, f 123, f 124, f 125, f 126, f 127, f 128, f 129, f 130, f 131, f 132, f 133, f 134], []⟩ _
  simp only at h5 h7 h8 h9 h10
  simp only [h5, h7, h8, h9, h10]
  clear h5 h7 h8 h9 h10
  change Code.wp _ (Code.seq (hd (sq 7 body34)) (Code.seq (hd (sq 8 body34)) (sq 9 body34))) _ _ _
  generalize sq 9 body34 = REST at hK ⊢
  conv => arg 2; arg 1; whnf
  conv => arg 2; arg 2; arg 1; whnf
  go_wp2
  exact hK.out _ ⟨rfl, rfl, rfl, rfl, rfl, rfl, trivial⟩
set_option maxRecDepth 100000 in
set_option maxHeartbeats 2000000 in
theorem rt_y2 {Q : Exit → Act → World → Prop} (kx Xx : Int) (nx qx : Bool) (Mx Lx : Nat) (D r gx : Nat) (e0 : Int) (o : Bool) (a : Act) (w : World) (rx : Hid (w.heap[gx]? = some (.cells #[.int .i64 kx, .bool nx, .int .u64 (Mx : Int), .int .i64 Xx, .bool qx, .int .u64 (Lx : Int)] 27 (0, 0)))) (r2 : Nat) (r3 : Nat) (h3 : IntKind.u64.wrap ((D : Int) - (r : Int)) = (r3 : Int)) (hm : IntKind.u64.wrap (2 * (r : Int)) = (r2 : Int)) (h1 : (r2 : Int) = (D : Int)) (ho : o = true) (hK : Hid (∀ a, At 135 [(5, .pointer (some ⟨gx, 0, none⟩)), (7, .int .u64 (r3 : Int)), (9, .int .i64 e0), (13, .bool (!nx))] a → Code.wp Try.prog (sq 9 body34) Q a w)) (ha : At 135 [(5, .pointer (some ⟨gx, 0, none⟩)), (7, .int .u64 (r : Int)), (8, .int .u64 (D : Int)), (9, .int .i64 e0), (10, .bool o)] a) : Code.wp Try.prog (sq 7 body34) Q a w := by
  subst ho
  obtain ⟨x0, x1, x2, x3, x4, x5⟩ := cells6 rx.out
  obtain ⟨f, rfl, h5, h7, h8, h9, h10, -⟩ := ha.lit
  change Code.wp _ _ _ ⟨#[f 0, f 1, f 2, f 3, f 4, f 5, f 6, f 7, f 8, f 9, f 10, f 11, f 12, f 13, f 14, f 15, f 16, f 17, f 18, f 19, f 20, f 21, f 22, f 23, f 24, f 25, f 26, f 27, f 28, f 29, f 30, f 31, f 32, f 33, f 34, f 35, f 36, f 37, f 38, f 39, f 40, f 41, f 42, f 43, f 44, f 45, f 46, f 47, f 48, f 49, f 50, f 51, f 52, f 53, f 54, f 55, f 56, f 57, f 58, f 59, f 60, f 61, f 62, f 63, f 64, f 65, f 66, f 67, f 68, f 69, f 70, f 71, f 72, f 73, f 74, f 75, f 76, f 77, f 78, f 79, f 80, f 81, f 82, f 83, f 84, f 85, f 86, f 87, f 88, f 89, f 90, f 91, f 92, f 93, f 94, f 95, f 96, f 97, f 98, f 99, f 100, f 101, f 102, f 103, f 104, f 105, f 106, f 107, f 108, f 109, f 110, f 111, f 112, f 113, f 114, f 115, f 116, f 117, f 118, f 119, f 120, f 121, f 122, f 123, f 124, f 125, f 126, f 127, f 128, f 129, f 130, f 131, f 132, f 133, f 134], []⟩ _
  simp only at h5 h7 h8 h9 h10
  simp only [h5, h7, h8, h9, h10]
  clear h5 h7 h8 h9 h10
  change Code.wp _ (Code.seq (hd (sq 7 body34)) (Code.seq (hd (sq 8 body34)) (sq 9 body34))) _ _ _
  generalize sq 9 body34 = REST at hK ⊢
  conv => arg 2; arg 1; whnf
  conv => arg 2; arg 2; arg 1; whnf
  go_wp2
  exact hK.out _ ⟨rfl, rfl, rfl, rfl, rfl, rfl, trivial⟩
set_option maxRecDepth 100000 in
set_option maxHeartbeats 2000000 in
theorem rt_e0 (kx Xx : Int) (nx qx : Bool) (Mx Lx : Nat) (r gx V : Nat) (e0 : Int) (ng : Bool) (a : Act) (w0 w : World) (B : Hid (Below w0.heap.size w0 w)) (rx : Hid (w.heap[gx]? = some (.cells #[.int .i64 kx, .bool nx, .int .u64 (Mx : Int), .int .i64 Xx, .bool qx, .int .u64 (Lx : Int)] 27 (0, 0)))) (hr : r = 0) (k15 : ∀ w, Calls Try.prog 15 #[.bool nx, .int .u64 ((0 : Nat) : Int), .int .i64 e0, .bool false, .agg #[.int .i64 52, .int .i64 2047, .int .i64 1023]] w fun e w' => e = .returned (.int .u64 (V : Int)) ∧ Below w.heap.size w w') (ha : At 135 [(5, .pointer (some ⟨gx, 0, none⟩)), (7, .int .u64 (r : Int)), (9, .int .i64 e0), (13, .bool ng)] a) : Code.wp Try.prog (sq 9 body34) (bodyPost Try.prog Try.f34 fun e w' => e = .returned (.int .u64 (V : Int)) ∧ Below w0.heap.size w0 w') a w := by
  subst hr
  have k12 := k16l
  unfold k16L at k12
  obtain ⟨x0, x1, x2, x3, x4, x5⟩ := cells6 rx.out
  obtain ⟨f, rfl, h5, h7, h9, h13, -⟩ := ha.lit
  change Code.wp _ _ _ ⟨#[f 0, f 1, f 2, f 3, f 4, f 5, f 6, f 7, f 8, f 9, f 10, f 11, f 12, f 13, f 14, f 15, f 16, f 17, f 18, f 19, f 20, f 21, f 22, f 23, f 24, f 25, f 26, f 27, f 28, f 29, f 30, f 31, f 32, f 33, f 34, f 35, f 36, f 37, f 38, f 39, f 40, f 41, f 42, f 43, f 44, f 45, f 46, f 47, f 48, f 49, f 50, f 51, f 52, f 53, f 54, f 55, f 56, f 57, f 58, f 59, f 60, f 61, f 62, f 63, f 64, f 65, f 66, f 67, f 68, f 69, f 70, f 71, f 72, f 73, f 74, f 75, f 76, f 77, f 78, f 79, f 80, f 81, f 82, f 83, f 84, f 85, f 86, f 87, f 88, f 89, f 90, f 91, f 92, f 93, f 94, f 95, f 96, f 97, f 98, f 99, f 100, f 101, f 102, f 103, f 104, f 105, f 106, f 107, f 108, f 109, f 110, f 111, f 112, f 113, f 114, f 115, f 116, f 117, f 118, f 119, f 120, f 121, f 122, f 123, f 124, f 125, f 126, f 127, f 128, f 129, f 130, f 131, f 132, f 133, f 134], []⟩ _
  simp only at h5 h7 h9 h13
  simp only [h5, h7, h9, h13]
  clear h5 h7 h9 h13
  conv => arg 2; whnf
  go_wp2_with (go_at_call 12; refine (k12 _).mono ?_)
  intro e1 w1 hq
  first | (obtain ⟨rfl, b1⟩ : _ ∧ _ := hq) | (subst hq; intro b1)
  go_wp2_with (go_at_call 15; refine (k15 _).mono ?_)
  intro e2 w2 hq
  first | (obtain ⟨rfl, b2⟩ : _ ∧ _ := hq) | (subst hq; intro b2)
  have B2 : Hid (Below w0.heap.size w0 w2) := B.out.trans ((b1.trans (b2.mono b1.size)).mono B.out.size)
  clear b1 b2
  go_wp2
  go_ret
  exact ⟨rfl, B2.out⟩
set_option maxRecDepth 100000 in
set_option maxHeartbeats 2000000 in
theorem rt_e1 (kx Xx : Int) (nx qx : Bool) (Mx Lx : Nat) (r gx V : Nat) (e0 : Int) (ng : Bool) (a : Act) (w0 w : World) (B : Hid (Below w0.heap.size w0 w)) (rx : Hid (w.heap[gx]? = some (.cells #[.int .i64 kx, .bool nx, .int .u64 (Mx : Int), .int .i64 Xx, .bool qx, .int .u64 (Lx : Int)] 27 (0, 0)))) (hr : ((r : Int) == 0) = false) (k15 : ∀ w, Calls Try.prog 15 #[.bool ng, .int .u64 (r : Int), .int .i64 e0, .bool false, .agg #[.int .i64 52, .int .i64 2047, .int .i64 1023]] w fun e w' => e = .returned (.int .u64 (V : Int)) ∧ Below w.heap.size w w') (ha : At 135 [(5, .pointer (some ⟨gx, 0, none⟩)), (7, .int .u64 (r : Int)), (9, .int .i64 e0), (13, .bool ng)] a) : Code.wp Try.prog (sq 9 body34) (bodyPost Try.prog Try.f34 fun e w' => e = .returned (.int .u64 (V : Int)) ∧ Below w0.heap.size w0 w') a w := by
  have k12 := k16l
  unfold k16L at k12
  obtain ⟨x0, x1, x2, x3, x4, x5⟩ := cells6 rx.out
  obtain ⟨f, rfl, h5, h7, h9, h13, -⟩ := ha.lit
  change Code.wp _ _ _ ⟨#[f 0, f 1, f 2, f 3, f 4, f 5, f 6, f 7, f 8, f 9, f 10, f 11, f 12, f 13, f 14, f 15, f 16, f 17, f 18, f 19, f 20, f 21, f 22, f 23, f 24, f 25, f 26, f 27, f 28, f 29, f 30, f 31, f 32, f 33, f 34, f 35, f 36, f 37, f 38, f 39, f 40, f 41, f 42, f 43, f 44, f 45, f 46, f 47, f 48, f 49, f 50, f 51, f 52, f 53, f 54, f 55, f 56, f 57, f 58, f 59, f 60, f 61, f 62, f 63, f 64, f 65, f 66, f 67, f 68, f 69, f 70, f 71, f 72, f 73, f 74, f 75, f 76, f 77, f 78, f 79, f 80, f 81, f 82, f 83, f 84, f 85, f 86, f 87, f 88, f 89, f 90, f 91, f 92, f 93, f 94, f 95, f 96, f 97, f 98, f 99, f 100, f 101, f 102, f 103, f 104, f 105, f 106, f 107, f 108, f 109, f 110, f 111, f 112, f 113, f 114, f 115, f 116, f 117, f 118, f 119, f 120, f 121, f 122, f 123, f 124, f 125, f 126, f 127, f 128, f 129, f 130, f 131, f 132, f 133, f 134], []⟩ _
  simp only at h5 h7 h9 h13
  simp only [h5, h7, h9, h13]
  clear h5 h7 h9 h13
  conv => arg 2; whnf
  go_wp2_with (go_at_call 12; refine (k12 _).mono ?_)
  intro e1 w1 hq
  first | (obtain ⟨rfl, b1⟩ : _ ∧ _ := hq) | (subst hq; intro b1)
  go_wp2_with (go_at_call 15; refine (k15 _).mono ?_)
  intro e2 w2 hq
  first | (obtain ⟨rfl, b2⟩ : _ ∧ _ := hq) | (subst hq; intro b2)
  have B2 : Hid (Below w0.heap.size w0 w2) := B.out.trans ((b1.trans (b2.mono b1.size)).mono B.out.size)
  clear b1 b2
  go_wp2
  go_ret
  exact ⟨rfl, B2.out⟩
/-- Whether a rest is turned about. -/
def flipR (r D : Nat) (o : Bool) : Bool := decide (D < 2 * r) || (decide (2 * r = D) && o)
/-- The bits of the nearest rest. -/
def remV (ng : Bool) (r D : Nat) (o : Bool) (e : Int) : Nat :=
  if flipR r D o = true then (if (!ng) = true then 9223372036854775808 else 0) + nearB 52 11 1023 (D - r) e else (if ng = true then 9223372036854775808 else 0) + nearB 52 11 1023 r e
set_option maxHeartbeats 1000000 in
theorem rt_any (kx Xx : Int) (nx qx : Bool) (Mx Lx : Nat) (D r gx : Nat) (e0 : Int) (o : Bool) (a : Act) (w0 w : World) (B : Below w0.heap.size w0 w) (rx : w.heap[gx]? = some (.cells #[.int .i64 kx, .bool nx, .int .u64 (Mx : Int), .int .i64 Xx, .bool qx, .int .u64 (Lx : Int)] 27 (0, 0))) (hr : r < D) (hD : D ≤ 4611686018427387904) (he1 : -1074 ≤ e0) (he2 : e0 ≤ 10000) (ha : At 135 [(5, .pointer (some ⟨gx, 0, none⟩)), (7, .int .u64 (r : Int)), (8, .int .u64 (D : Int)), (9, .int .i64 e0), (10, .bool o)] a) :
    Code.wp Try.prog (sq 7 body34) (bodyPost Try.prog Try.f34 fun e w' => e = .returned (.int .u64 (remV nx r D o e0 : Nat)) ∧ Below w0.heap.size w0 w') a w := by
  have q3 : (2 : Nat) ^ (52 + 11) = 9223372036854775808 := by decide
  have hm : IntKind.u64.wrap (2 * (r : Int)) = ((2 * r : Nat) : Int) := by rw [u64_wrap']; omega
  have h3 : IntKind.u64.wrap ((D : Int) - (r : Int)) = ((D - r : Nat) : Int) := by rw [u64_wrap']; omega
  have k15 := fun (ng : Bool) (n : Nat) (hn : n < 18446744073709551616) w => rrounded_all lay64 ng n e0 w (fun _ => by omega) hn (by omega) (by omega)
  rw [q3] at k15
  have yes : flipR r D o = true → ∀ a, At 135 [(5, .pointer (some ⟨gx, 0, none⟩)), (7, .int .u64 ((D - r : Nat) : Int)), (9, .int .i64 e0), (13, .bool (!nx))] a → Code.wp Try.prog (sq 9 body34) (bodyPost Try.prog Try.f34 fun e w' => e = .returned (.int .u64 (remV nx r D o e0 : Nat)) ∧ Below w0.heap.size w0 w') a w := fun hf a ha => by
    unfold remV
    rw [if_pos hf]
    exact rt_e1 kx Xx nx qx Mx Lx (D - r) gx _ e0 (!nx) a w0 w B rx (beq_eq_false_iff_ne.2 (by omega)) (k15 (!nx) (D - r) (by omega)) ha
  have no : flipR r D o = false → ∀ a, At 135 [(5, .pointer (some ⟨gx, 0, none⟩)), (7, .int .u64 (r : Int)), (9, .int .i64 e0), (13, .bool nx)] a → Code.wp Try.prog (sq 9 body34) (bodyPost Try.prog Try.f34 fun e w' => e = .returned (.int .u64 (remV nx r D o e0 : Nat)) ∧ Below w0.heap.size w0 w') a w := fun hf a ha => by
    unfold remV
    rw [hf, if_neg (by decide)]
    by_cases z : r = 0
    · subst z
      exact rt_e0 kx Xx nx qx Mx Lx 0 gx _ e0 nx a w0 w B rx rfl (k15 nx 0 (by omega)) ha
    · exact rt_e1 kx Xx nx qx Mx Lx r gx _ e0 nx a w0 w B rx (beq_eq_false_iff_ne.2 (by omega)) (k15 nx r (by omega)) ha
  by_cases c1 : D < 2 * r
  · exact rt_y1 kx Xx nx qx Mx Lx D r gx e0 o a w rx (2 * r) (D - r) h3 hm (by omega) (yes (by unfold flipR; simp [c1])) ha
  · by_cases c2 : 2 * r = D
    · cases o
      · exact rt_n2 kx Xx nx qx Mx Lx D r gx e0 false a w rx (2 * r) hm (by omega) rfl (no (by unfold flipR; simp [c1])) ha
      · exact rt_y2 kx Xx nx qx Mx Lx D r gx e0 true a w rx (2 * r) (D - r) h3 hm (by omega) rfl (yes (by unfold flipR; simp [c2])) ha
    · exact rt_n1 kx Xx nx qx Mx Lx D r gx e0 o a w rx (2 * r) hm (by omega) (beq_eq_false_iff_ne.2 (by omega)) (no (by unfold flipR; simp [c1, c2])) ha
/-- The remainder's bits. -/
def remB (x y : Pt) (a : Nat) : Nat :=
  if x.kind = 3 ∨ x.kind = 4 ∨ y.kind = 4 ∨ y.kind = 0 then 9221120237041090560
  else if y.kind = 3 then a
  else remV x.neg (x.mant * 2 ^ (x.exp - y.exp).toNat % (y.mant * 2 ^ (min (max (y.exp - x.exp) 0) 2).toNat)) (y.mant * 2 ^ (min (max (y.exp - x.exp) 0) 2).toNat) (x.mant * 2 ^ (x.exp - y.exp).toNat / (y.mant * 2 ^ (min (max (y.exp - x.exp) 0) 2).toNat) % 2 == 1) (min x.exp y.exp)
set_option maxHeartbeats 1000000 in
theorem nearRest_any (kx Xx : Int) (nx qx : Bool) (Mx Lx : Nat) (ky Xy : Int) (ny qy : Bool) (My Ly : Nat) (D s : Nat) (w : World) (hX : -1100 ≤ Xx ∧ Xx ≤ 1000) (hY : -1100 ≤ Xy ∧ Xy ≤ 1000) (hM : Mx < 18446744073709551616) (hMy : 0 < My) (hMy2 : My < 9007199254740992) (hD : My * 2 ^ (min (max (Xy - Xx) 0) 2).toNat = D) (hs : (Xx - Xy).toNat = s) :
    Calls Try.prog 63 #[.agg #[.int .i64 kx, .bool nx, .int .u64 (Mx : Int), .int .i64 Xx, .bool qx, .int .u64 (Lx : Int)], .agg #[.int .i64 ky, .bool ny, .int .u64 (My : Int), .int .i64 Xy, .bool qy, .int .u64 (Ly : Int)]] w fun e w' => e = .returned (.agg #[.int .i64 0, .bool (if flipR (Mx * 2 ^ s % D) D (Mx * 2 ^ s / D % 2 == 1) = true then !nx else nx), .int .u64 ((if flipR (Mx * 2 ^ s % D) D (Mx * 2 ^ s / D % 2 == 1) = true then D - Mx * 2 ^ s % D else Mx * 2 ^ s % D : Nat) : Int), .int .i64 (min Xx Xy), .bool false, .int .u64 0]) ∧ Below w.heap.size w w' := by
  have hpw : 2 ^ (min (max (Xy - Xx) 0) 2).toNat ≤ 4 := by
    have : 2 ^ (min (max (Xy - Xx) 0) 2).toNat ≤ 2 ^ 2 := Nat.pow_le_pow_right (by omega) (by omega)
    omega
  have hpw0 := Nat.two_pow_pos (min (max (Xy - Xx) 0) 2).toNat
  have hD0 : 0 < D := by rw [← hD]; exact Nat.mul_pos hMy hpw0
  have hD2 : D ≤ 36028797018963968 := by
    have := Nat.mul_le_mul (Nat.le_of_lt hMy2) hpw
    omega
  have k76 := fun w => restOf_any Mx s D w hD0 (by omega) hM (by omega)
  have hr := Nat.mod_lt (Mx * 2 ^ s) hD0
  have hmax : max (Xx - Xy) 0 = (s : Int) := by omega
  generalize Mx * 2 ^ s % D = r at *
  generalize (Mx * 2 ^ s / D % 2 == 1) = o at *
  have hm : IntKind.u64.wrap (2 * (r : Int)) = ((2 * r : Nat) : Int) := by rw [u64_wrap']; omega
  have h3 : IntKind.u64.wrap ((D : Int) - (r : Int)) = ((D - r : Nat) : Int) := by rw [u64_wrap']; omega
  refine nr_a kx Xx nx qx Mx Lx ky Xy ny qy My Ly (Xy - Xx) (min (max (Xy - Xx) 0) 2) (Xx - Xy) s D r o w (i64_in _ (by omega) (by omega)) rfl (by omega) (by rw [pow_int, ← Int.natCast_mul, hD, u64_small _ (by omega)]) (i64_in _ (by omega) (by omega)) hmax k76 (fun a w1 gx gy gr B1 hg hrow ha => ?_)
  have yes : flipR r D o = true → ∀ a w', Below gx w1 w' → w'.heap[gx]? = some (.cells #[.int .i64 kx, .bool (!nx), .int .u64 (Mx : Int), .int .i64 Xx, .bool qx, .int .u64 (Lx : Int)] 66 (0, 0)) ∧ w'.heap[gy]? = some (.cells #[.int .i64 ky, .bool ny, .int .u64 (My : Int), .int .i64 Xy, .bool qy, .int .u64 (Ly : Int)] 66 (0, 0)) ∧ w'.heap[gr]? = some (.cells #[.int .i64 0, .bool false, .int .u64 0, .int .i64 0, .bool false, .int .u64 0] 66 (0, 0)) ∧ gx < gy ∧ gy < gr → At 60 [(2, .pointer (some ⟨gx, 0, none⟩)), (3, .pointer (some ⟨gy, 0, none⟩)), (4, .pointer (some ⟨gr, 0, none⟩)), (6, .int .u64 ((D - r : Nat) : Int))] a → Code.wp Try.prog (sq 4 body63) (bodyPost Try.prog Try.f63 fun e w' => e = .returned (.agg #[.int .i64 0, .bool (if flipR r D o = true then !nx else nx), .int .u64 ((if flipR r D o = true then D - r else r : Nat) : Int), .int .i64 (min Xx Xy), .bool false, .int .u64 0]) ∧ Below w.heap.size w w') a w' := fun hf a w2 B2 hrow2 ha => by
    rw [if_pos hf, if_pos hf]
    exact nr_c kx Xx (!nx) qx Mx Lx ky Xy ny qy My Ly (D - r) gx gy gr _ a w w2 (B1.trans (B2.mono hg)) hg hrow2 rfl ha
  have no : flipR r D o = false → ∀ a, At 60 [(2, .pointer (some ⟨gx, 0, none⟩)), (3, .pointer (some ⟨gy, 0, none⟩)), (4, .pointer (some ⟨gr, 0, none⟩)), (6, .int .u64 (r : Int))] a → Code.wp Try.prog (sq 4 body63) (bodyPost Try.prog Try.f63 fun e w' => e = .returned (.agg #[.int .i64 0, .bool (if flipR r D o = true then !nx else nx), .int .u64 ((if flipR r D o = true then D - r else r : Nat) : Int), .int .i64 (min Xx Xy), .bool false, .int .u64 0]) ∧ Below w.heap.size w w') a w1 := fun hf a ha => by
    rw [hf, if_neg (by decide), if_neg (by decide)]
    exact nr_c kx Xx nx qx Mx Lx ky Xy ny qy My Ly r gx gy gr _ a w w1 B1 hg hrow rfl ha
  by_cases c1 : D < 2 * r
  · exact nr_y1 kx Xx nx qx Mx Lx ky Xy ny qy My Ly D r gx gy gr o a w1 (2 * r) (D - r) hrow hm h3 (by omega) (yes (by unfold flipR; simp [c1])) ha
  · by_cases c2 : 2 * r = D
    · cases o
      · exact nr_n2 kx Xx nx qx Mx Lx ky Xy ny qy My Ly D r gx gy gr false a w1 (2 * r) hm (by omega) rfl (no (by unfold flipR; simp [c1])) ha
      · exact nr_y2 kx Xx nx qx Mx Lx ky Xy ny qy My Ly D r gx gy gr true a w1 (2 * r) (D - r) hrow hm h3 (by omega) rfl (yes (by unfold flipR; simp [c2])) ha
    · exact nr_n1 kx Xx nx qx Mx Lx ky Xy ny qy My Ly D r gx gy gr o a w1 (2 * r) hm (by omega) (beq_eq_false_iff_ne.2 (by omega)) (no (by unfold flipR; simp [c1, c2])) ha
theorem pt_range (b : Nat) : (pt 52 11 1023 b).mant < 9007199254740992 ∧ -1074 ≤ (pt 52 11 1023 b).exp ∧ (pt 52 11 1023 b).exp ≤ 971 ∧ ((pt 52 11 1023 b).kind = 0 ∨ (pt 52 11 1023 b).kind = 1 ∨ (pt 52 11 1023 b).kind = 2 ∨ (pt 52 11 1023 b).kind = 3 ∨ (pt 52 11 1023 b).kind = 4) ∧ ((pt 52 11 1023 b).kind = 1 ∨ (pt 52 11 1023 b).kind = 2 → 0 < (pt 52 11 1023 b).mant) ∧ ((pt 52 11 1023 b).kind = 0 → (pt 52 11 1023 b).mant = 0) ∧ ((pt 52 11 1023 b).kind = 2 ∨ (pt 52 11 1023 b).exp = 0 ∨ (pt 52 11 1023 b).exp = -1074) ∧ ((pt 52 11 1023 b).kind = 2 → 4503599627370496 ≤ (pt 52 11 1023 b).mant) ∧ ((pt 52 11 1023 b).kind = 0 → (pt 52 11 1023 b).exp = 0) ∧ ((pt 52 11 1023 b).kind = 1 → (pt 52 11 1023 b).exp = -1074) := by
  have q1 : (2 : Nat) ^ 52 = 4503599627370496 := by decide
  have q2 : (2 : Nat) ^ 11 = 2048 := by decide
  have h1 := Nat.mod_lt b (show 4503599627370496 > 0 by decide)
  have h2 := Nat.mod_lt (b / 4503599627370496) (show 2048 > 0 by decide)
  unfold pt
  rw [q1, q2]
  repeat' split
  all_goals (dsimp only; omega)
set_option maxHeartbeats 1000000 in
theorem crem_any (a0 b0 : Nat) (w : World) (ha0 : a0 < 18446744073709551616) (hb0 : b0 < 18446744073709551616) : Calls Try.prog 33 #[.float .f64 a0, .float .f64 b0] w fun e w' => e = .returned (.float .f64 (remB (pt 52 11 1023 a0) (pt 52 11 1023 b0) a0)) ∧ Below w.heap.size w w' := by
  have k46 := fun w => Parts_any a0 w ha0
  have k46b := fun w => Parts_any b0 w hb0
  obtain ⟨xm, xe1, xe2, xk, xp, xz, xq, xn, xz0, xs0⟩ := pt_range a0
  obtain ⟨ym, ye1, ye2, yk, yp, yz, yq, yn, yz0, ys0⟩ := pt_range b0
  unfold remB remV
  generalize pt 52 11 1023 a0 = x at *
  obtain ⟨kx, nx, Mx, Xx, qx, Lx⟩ := x
  generalize pt 52 11 1023 b0 = y at *
  obtain ⟨ky, ny, My, Xy, qy, Ly⟩ := y
  unfold Pt.val at k46 k46b
  dsimp only at *
  have k57 := fun w => finite_any kx Xx nx qx Mx Lx w
  refine rm_a kx Xx nx qx Mx Lx ky Xy ny qy My Ly a0 b0 w k46 k46b fun a w1 gx gy B1 hrow ha => ?_
  by_cases c : kx = 3 ∨ kx = 4
  · rw [if_pos (by omega)]
    have e : (decide (¬ kx = 3) && decide (¬ kx = 4)) = false := by rcases c with c | c <;> simp [c]
    rw [e] at k57
    exact rm_x kx Xx nx qx Mx Lx ky Xy ny qy My Ly a0 gx gy a w w1 B1 hrow k57 ha
  have e : (decide (¬ kx = 3) && decide (¬ kx = 4)) = true := by
    have h3 : ¬ kx = 3 := by omega
    have h4 : ¬ kx = 4 := by omega
    simp [h3, h4]
  rw [e] at k57
  by_cases c4 : ky = 4
  · rw [if_pos (by omega)]
    exact rm_y4 kx Xx nx qx Mx Lx ky Xy ny qy My Ly a0 gx gy a w w1 B1 hrow c4 k57 ha
  by_cases c0 : ky = 0
  · rw [if_pos (by omega)]
    exact rm_y0 kx Xx nx qx Mx Lx ky Xy ny qy My Ly a0 gx gy a w w1 B1 hrow c0 k57 ha
  rw [if_neg (by omega)]
  by_cases c3 : ky = 3
  · rw [if_pos c3]
    exact rm_y3 kx Xx nx qx Mx Lx ky Xy ny qy My Ly a0 gx gy a w w1 B1 hrow c3 k57 ha
  rw [if_neg c3]
  have k63 := fun w => nearRest_any kx Xx nx qx Mx Lx ky Xy ny qy My Ly _ _ w (by omega) (by omega) (by omega) (yp (by omega)) ym rfl rfl
  have hDp : 0 < My * 2 ^ (min (max (Xy - Xx) 0) 2).toNat := Nat.mul_pos (yp (by omega)) (Nat.two_pow_pos _)
  have hD2 : My * 2 ^ (min (max (Xy - Xx) 0) 2).toNat ≤ 36028797018963968 := by
    have : 2 ^ (min (max (Xy - Xx) 0) 2).toNat ≤ 2 ^ 2 := Nat.pow_le_pow_right (by omega) (by omega)
    have := Nat.mul_le_mul (Nat.le_of_lt ym) this
    omega
  generalize My * 2 ^ (min (max (Xy - Xx) 0) 2).toNat = D at *
  have hr := Nat.mod_lt (Mx * 2 ^ (Xx - Xy).toNat) hDp
  generalize Mx * 2 ^ (Xx - Xy).toNat % D = r at *
  generalize (Mx * 2 ^ (Xx - Xy).toNat / D % 2 == 1) = o at *
  have k50 := fun (ng : Bool) (n : Nat) (hn : n < 18446744073709551616) w => number_any ⟨0, ng, n, min Xx Xy, false, 0⟩ w hn (by show -10000 ≤ min Xx Xy; omega) (by show min Xx Xy ≤ 10000; omega)
  have hrn : ∀ (ng : Bool) (n : Nat), rndB 52 11 1023 ⟨0, ng, n, min Xx Xy, false, 0⟩ = (if ng = true then 9223372036854775808 else 0) + nearB 52 11 1023 n (min Xx Xy) := fun ng n => by
    unfold rndB
    rw [if_neg (show ¬ (0 : Int) = 4 by decide), if_neg (show ¬ (0 : Int) = 3 by decide)]
  cases hf : flipR r D o
  · rw [hf] at k63
    simp only [Bool.false_eq_true, if_false] at k63 ⊢
    have k := k50 nx r (by omega)
    rw [hrn] at k
    rcases (by omega : ky = 1 ∨ ky = 2) with h | h
    · exact rm_g1 kx Xx nx qx Mx Lx ky Xy ny qy My Ly a0 gx gy a w w1 B1 hrow h nx r _ _ k57 k63 k ha
    · exact rm_g2 kx Xx nx qx Mx Lx ky Xy ny qy My Ly a0 gx gy a w w1 B1 hrow h nx r _ _ k57 k63 k ha
  · rw [hf] at k63
    simp only [if_true] at k63 ⊢
    have k := k50 (!nx) (D - r) (by omega)
    rw [hrn] at k
    rcases (by omega : ky = 1 ∨ ky = 2) with h | h
    · exact rm_g1 kx Xx nx qx Mx Lx ky Xy ny qy My Ly a0 gx gy a w w1 B1 hrow h (!nx) (D - r) _ _ k57 k63 k ha
    · exact rm_g2 kx Xx nx qx Mx Lx ky Xy ny qy My Ly a0 gx gy a w w1 B1 hrow h (!nx) (D - r) _ _ k57 k63 k ha
theorem bits_num {a0 : Nat} (ha0 : a0 < 18446744073709551616) (h3 : ¬ (pt 52 11 1023 a0).kind = 3) (h4 : ¬ (pt 52 11 1023 a0).kind = 4) : (if (pt 52 11 1023 a0).neg = true then 9223372036854775808 else 0) + nearB 52 11 1023 (pt 52 11 1023 a0).mant (pt 52 11 1023 a0).exp = a0 := by
  have h := bits_back a0 ha0 h3 h4
  unfold rndB at h
  rw [if_neg h4, if_neg h3] at h
  exact h
set_option maxHeartbeats 1000000 in
theorem rrem_any (a0 b0 : Nat) (w : World) (ha0 : a0 < 18446744073709551616) (hb0 : b0 < 18446744073709551616) : Calls Try.prog 34 #[.int .u64 (a0 : Int), .int .u64 (b0 : Int)] w fun e w' => e = .returned (.int .u64 (remB (pt 52 11 1023 a0) (pt 52 11 1023 b0) a0 : Nat)) ∧ Below w.heap.size w w' := by
  have k11 := fun w => rparts_any lay64 a0 w ha0
  have k11b := fun w => rparts_any lay64 b0 w hb0
  have hbn := bits_num ha0
  obtain ⟨xm, xe1, xe2, xk, xp, xz, xq, xn, xz0, xs0⟩ := pt_range a0
  obtain ⟨ym, ye1, ye2, yk, yp, yz, yq, yn, yz0, ys0⟩ := pt_range b0
  unfold remB
  generalize pt 52 11 1023 a0 = x at *
  obtain ⟨kx, nx, Mx, Xx, qx, Lx⟩ := x
  generalize pt 52 11 1023 b0 = y at *
  obtain ⟨ky, ny, My, Xy, qy, Ly⟩ := y
  unfold Pt.val at k11 k11b
  dsimp only at *
  refine rr_a kx Xx nx qx Mx Lx ky Xy ny qy My Ly a0 b0 w k11 k11b fun a w1 gx gy B1 hrow ha => ?_
  by_cases c1 : kx = 4
  · rw [if_pos (by omega)]
    exact rr_n1 kx Xx nx qx Mx Lx ky Xy ny qy My Ly a0 gx gy a w w1 B1 hrow c1 ha
  have c1b : (kx == 4) = false := beq_eq_false_iff_ne.2 c1
  by_cases c2 : ky = 4
  · rw [if_pos (by omega)]
    exact rr_n2 kx Xx nx qx Mx Lx ky Xy ny qy My Ly a0 gx gy a w w1 B1 hrow c1b c2 ha
  have c2b : (ky == 4) = false := beq_eq_false_iff_ne.2 c2
  by_cases c3 : kx = 3
  · rw [if_pos (by omega)]
    exact rr_n3 kx Xx nx qx Mx Lx ky Xy ny qy My Ly a0 gx gy a w w1 B1 hrow c3 c2b ha
  have c3b : (kx == 3) = false := beq_eq_false_iff_ne.2 c3
  by_cases c4 : ky = 0
  · rw [if_pos (by omega)]
    exact rr_n4 kx Xx nx qx Mx Lx ky Xy ny qy My Ly a0 gx gy a w w1 B1 hrow c1b c3b c4 ha
  have c4b : (ky == 0) = false := beq_eq_false_iff_ne.2 c4
  rw [if_neg (by omega)]
  have hbn := hbn c3 c1
  by_cases c5 : ky = 3
  · rw [if_pos c5]
    exact rr_s1 kx Xx nx qx Mx Lx ky Xy ny qy My Ly a0 gx gy a w w1 B1 hrow c1b c3b c5 ha
  have c5b : (ky == 3) = false := beq_eq_false_iff_ne.2 c5
  rw [if_neg c5]
  have hMy := yp (by omega)
  have hpw0 := Nat.two_pow_pos (min (max (Xy - Xx) 0) 2).toNat
  have hDp : 0 < My * 2 ^ (min (max (Xy - Xx) 0) 2).toNat := Nat.mul_pos hMy hpw0
  have noFlip : ∀ (n s D : Nat) (e : Int), n * 2 ^ s < D → 2 * (n * 2 ^ s) < D → remV nx (n * 2 ^ s % D) D (n * 2 ^ s / D % 2 == 1) e = (if nx = true then 9223372036854775808 else 0) + nearB 52 11 1023 (n * 2 ^ s) e := fun n s D e h1 h2 => by
    rw [Nat.mod_eq_of_lt h1, Nat.div_eq_of_lt h1]
    unfold remV flipR
    have e1 : decide (D < 2 * (n * 2 ^ s)) = false := decide_eq_false (by omega)
    have e2 : decide (2 * (n * 2 ^ s) = D) = false := decide_eq_false (by omega)
    rw [e1, e2]
    rfl
  by_cases c6 : kx = 0
  · have hM := xz c6
    have hv : remV nx (Mx * 2 ^ (Xx - Xy).toNat % (My * 2 ^ (min (max (Xy - Xx) 0) 2).toNat)) (My * 2 ^ (min (max (Xy - Xx) 0) 2).toNat) (Mx * 2 ^ (Xx - Xy).toNat / (My * 2 ^ (min (max (Xy - Xx) 0) 2).toNat) % 2 == 1) (min Xx Xy) = a0 := by
      rw [noFlip _ _ _ _ (by rw [hM, Nat.zero_mul]; exact hDp) (by rw [hM, Nat.zero_mul]; exact hDp), ← hbn, hM, Nat.zero_mul, nearB_nought, nearB_nought]
    rw [hv]
    exact rr_s2 kx Xx nx qx Mx Lx ky Xy ny qy My Ly a0 gx gy a w w1 B1 hrow c2b c4b c5b c6 ha
  have c6b : (kx == 0) = false := beq_eq_false_iff_ne.2 c6
  refine rr_b kx Xx nx qx Mx Lx ky Xy ny qy My Ly a0 gx gy a w1 hrow c1b c3b c2b c4b c5b c6b (fun a w2 B2 ha => ?_) ha
  have rx2 := below_at hrow.1 B2
  have ry2 := below_at hrow.2 B2
  have B2 : Below w.heap.size w w2 := B1.trans (B2.mono B1.size)
  by_cases cx : Xy ≤ Xx
  · have e0 : (min (max (Xy - Xx) 0) 2).toNat = 0 := by omega
    obtain ⟨s, hs⟩ : ∃ s : Nat, Xx - Xy = s := ⟨_, (Int.toNat_of_nonneg (by omega)).symm⟩
    rw [e0, Nat.pow_zero, Nat.mul_one, hs, Int.toNat_natCast, show min Xx Xy = Xy by omega]
    refine rr_c kx Xx nx qx Mx Lx ky Xy ny qy My Ly My s a0 gx gy a w2 ⟨rx2, ry2⟩ rfl hs (by omega) (by omega) hMy (by omega) (by omega) (fun a ha => ?_) ha
    exact rt_any kx Xx nx qx Mx Lx My _ gx Xy _ a w w2 B2 rx2 (Nat.mod_lt _ hMy) (by omega) (by omega) (by omega) ha
  · have hky : ky = 2 := by
      rcases (by omega : ky = 1 ∨ ky = 2) with h | h
      · have := ys0 h; omega
      · exact h
    have hMy52 := yn hky
    obtain ⟨d, hd⟩ : ∃ d : Nat, Xy - Xx = d := ⟨_, (Int.toNat_of_nonneg (by omega)).symm⟩
    have hd0 : 1 ≤ d := by omega
    have es : (Xx - Xy).toNat = 0 := by omega
    rw [es, Nat.pow_zero, Nat.mul_one, show min Xx Xy = Xx by omega]
    have nf := noFlip Mx 0
    rw [Nat.pow_zero, Nat.mul_one] at nf
    by_cases d2 : d ≤ 2
    · have ed : (min (max (Xy - Xx) 0) 2).toNat = d := by omega
      rw [ed] at hDp ⊢
      have hle : ∀ i, i ≤ d → My * 2 ^ i < 36028797018963968 := fun i hi => by
        have h1 : 2 ^ i ≤ 2 ^ 2 := Nat.pow_le_pow_right (by omega) (by omega)
        have h2 := Nat.mul_le_mul (Nat.le_refl My) h1
        omega
      have hD9 := hle d (Nat.le_refl _)
      refine rr_d kx Xx nx qx Mx Lx ky Xy ny qy My Ly _ d a0 gx gy a w2 ⟨rx2, ry2⟩ hd hd0 (by omega) (by omega) (fun i hi => Nat.le_of_lt (hle i (by omega))) rfl hDp (by omega) (by omega) (fun a ha => ?_) ha
      exact rt_any kx Xx nx qx Mx Lx _ _ gx Xx _ a w w2 B2 rx2 (Nat.mod_lt _ hDp) (by omega) (by omega) (by omega) ha
    · have ed : (min (max (Xy - Xx) 0) 2).toNat = 2 := by omega
      rw [ed]
      rw [nf _ _ (by omega) (by omega), hbn]
      have g0 : My * 2 ^ 0 ≤ 36028797018963968 := by omega
      have g1 : My * 2 ^ 1 ≤ 36028797018963968 := by omega
      have g2 : My * 2 ^ 2 ≤ 36028797018963968 := by omega
      by_cases c8 : 36028797018963968 < My * 2 ^ 3
      · by_cases d3 : d = 3
        · subst d3
          have hDb : My * 2 ^ 3 < 144115188075855872 := by omega
          refine rr_d kx Xx nx qx Mx Lx ky Xy ny qy My Ly _ 3 a0 gx gy a w2 ⟨rx2, ry2⟩ hd hd0 (by omega) (by omega) (fun i hi => by match i, hi with | 0, _ => exact g0 | 1, _ => exact g1 | 2, _ => exact g2) rfl (by omega) (by omega) (by omega) (fun a ha => ?_) ha
          have ht := rt_any kx Xx nx qx Mx Lx _ _ gx Xx _ a w w2 B2 rx2 (Nat.mod_lt Mx (show My * 2 ^ 3 > 0 by omega)) (by omega) (by omega) (by omega) ha
          rw [nf _ _ (by omega) (by omega), hbn] at ht
          exact ht
        · exact rr_r kx Xx nx qx Mx Lx ky Xy ny qy My Ly d a0 gx gy a w w2 B2 ⟨rx2, ry2⟩ hd hd0 (by omega) (by omega) 3 (by omega) (fun i hi => by match i, hi with | 0, _ => exact g0 | 1, _ => exact g1 | 2, _ => exact g2) c8 (by omega) ha
      · have g3 : My * 2 ^ 3 ≤ 36028797018963968 := by omega
        by_cases d34 : d ≤ 4
        · have hDb : My * 2 ^ d < 144115188075855872 ∧ 36028797018963968 ≤ My * 2 ^ d := by
            rcases (by omega : d = 3 ∨ d = 4) with h | h <;> subst h <;> omega
          refine rr_d kx Xx nx qx Mx Lx ky Xy ny qy My Ly _ d a0 gx gy a w2 ⟨rx2, ry2⟩ hd hd0 (by omega) (by omega) (fun i hi => by
            have hi4 : i < 4 := by omega
            match i, hi4 with | 0, _ => exact g0 | 1, _ => exact g1 | 2, _ => exact g2 | 3, _ => exact g3) rfl (by omega) (by omega) (by omega) (fun a ha => ?_) ha
          have ht := rt_any kx Xx nx qx Mx Lx _ _ gx Xx _ a w w2 B2 rx2 (Nat.mod_lt Mx (show My * 2 ^ d > 0 by omega)) (by omega) (by omega) (by omega) ha
          rw [nf _ _ (by omega) (by omega), hbn] at ht
          exact ht
        · exact rr_r kx Xx nx qx Mx Lx ky Xy ny qy My Ly d a0 gx gy a w w2 B2 ⟨rx2, ry2⟩ hd hd0 (by omega) (by omega) 4 (by omega) (fun i hi => by match i, hi with | 0, _ => exact g0 | 1, _ => exact g1 | 2, _ => exact g2 | 3, _ => exact g3) (by omega) (by omega) ha
end Go.Proofs.Ytjcjecbffnadaab
