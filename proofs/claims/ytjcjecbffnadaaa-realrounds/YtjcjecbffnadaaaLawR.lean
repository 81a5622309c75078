/-
  What the statement of Narrow, Widen and Near asks, walked. Condition: the numbers fit their types.
-/
import Derived.Test.YtjcjecbffnadaaaNw
import Derived.Test.YtjcjecbffnadaaaCm
import Derived.BigRegion
import Derived.Test.YtjcjecbffnadaaaLawF
namespace Go.Proofs.Ytjcjecbffnadaaa
open Go.RowKit
noncomputable def body8 : Code := Try.f8.body.getD .skip
set_option maxRecDepth 100000 in
set_option maxHeartbeats 2000000 in
theorem l8_a {Q : Ending → World → Prop} (b c : Nat) (m x : Int) (w : World)
    (hK : Hid (∀ a w', Below w.heap.size w w' → At 114 [(0, .int .u64 (b : Int)), (1, .int .u32 (c : Int)), (7, .int .i64 m), (8, .int .i64 x)] a → Code.wp Try.prog (sq 3 body8) (bodyPost Try.prog Try.f8 Q) a w')) :
    Calls Try.prog 8 #[.int .u64 (b : Int), .int .u32 (c : Int), .agg #[.int .i64 m, .int .i64 x]] w Q := by
  have k9 := awake_any
  go_enter Try.func8, Try.ntmps8
  change Code.wp _ (Code.seq (hd (sq 0 body8)) (Code.seq (hd (sq 1 body8)) (Code.seq (hd (sq 2 body8)) (sq 3 body8)))) _ _ _
  generalize sq 3 body8 = REST at hK ⊢
  conv => arg 2; arg 1; whnf
  conv => arg 2; arg 2; arg 1; whnf
  conv => arg 2; arg 2; arg 2; arg 1; whnf
  go_wp2_with (go_at_call 9; refine (k9 _).mono ?_)
  intro e1 w1 hq
  first | (obtain ⟨rfl, b1⟩ : _ ∧ _ := hq) | (subst hq; intro b1)
  have B1 : Hid (Below w.heap.size w w1) := ((Below.refl _ _).alloc (Nat.le_refl _) _).trans (b1.mono (by simp))
  have r1 : w1.heap[w.heap.size]? = some (.cells #[.int .i64 m, .int .i64 x] 67 (0, 0)) := (b1.block _ (by simp)).trans (heap_alloc_last _ _)
  have m0 : w1.cell? ⟨w.heap.size, 0, none⟩ = some (.int .i64 m) := by rw [cell_of_row _ _ _ _ _ _ r1]; rfl
  have m1 : w1.cell? ⟨w.heap.size, 1, none⟩ = some (.int .i64 x) := by rw [cell_of_row _ _ _ _ _ _ r1]; rfl
  clear b1 r1
  go_wp2
  go_region
  go_wp2
  exact hK.out _ _ B1.out.drew ⟨rfl, rfl, rfl, rfl, rfl, rfl, trivial⟩
set_option maxRecDepth 100000 in
set_option maxHeartbeats 2000000 in
theorem l8_b {Q : Exit → Act → World → Prop} (b c V : Nat) (m x : Int) (kd X : Int) (ng qu : Bool) (M LD : Nat) (a : Act) (w : World)
    (k15 : ∀ w, Calls Try.prog 15 #[.int .u64 (b : Int), .agg #[.int .i64 52, .int .i64 2047, .int .i64 1023]] w fun e w' => e = .returned (.agg #[.int .i64 kd, .bool ng, .int .u64 (M : Int), .int .i64 X, .bool qu, .int .u64 (LD : Int)]) ∧ Below w.heap.size w w')
    (k36 : ∀ w, Calls Try.prog 36 #[.float .f64 b] w fun e w' => e = .returned (.float .f32 V) ∧ Below w.heap.size w w')
    (hK : Hid (∀ a w' g, Below w.heap.size w w' → w'.heap[g]? = some (.cells #[.int .i64 kd, .bool ng, .int .u64 (M : Int), .int .i64 X, .bool qu, .int .u64 (LD : Int)] 34 (0, 0)) → At 114 [(0, .int .u64 (b : Int)), (1, .int .u32 (c : Int)), (7, .int .i64 m), (8, .int .i64 x), (10, .pointer (some ⟨g, 0, none⟩)), (11, .float .f32 V), (12, .int .u64 0)] a → Code.wp Try.prog (sq 6 body8) Q a w')) (ha : At 114 [(0, .int .u64 (b : Int)), (1, .int .u32 (c : Int)), (7, .int .i64 m), (8, .int .i64 x)] a) :
    Code.wp Try.prog (sq 3 body8) Q a w := by
  have k16 := k16l
  unfold k16L at k16
  have x10 := ext10
  obtain ⟨f, rfl, h0, h1, h7, h8, -⟩ := ha.lit
  change Code.wp _ _ _ ⟨#[f 0, f 1, f 2, f 3, f 4, f 5, f 6, f 7, f 8, f 9, f 10, f 11, f 12, f 13, f 14, f 15, f 16, f 17, f 18, f 19, f 20, f 21, f 22, f 23, f 24, f 25, f 26, f 27, f 28, f 29, f 30, f 31, f 32, f 33, f 34, f 35, f 36, f 37, f 38, f 39, f 40, f 41, f 42, f 43, f 44, f 45, f 46, f 47, f 48, f 49, f 50, f 51, f 52, f 53, f 54, f 55, f 56, f 57, f 58, f 59, f 60, f 61, f 62, f 63, f 64, f 65, f 66, f 67, f 68, f 69, f 70, f 71, f 72, f 73, f 74, f 75, f 76, f 77, f 78, f 79, f 80, f 81, f 82, f 83, f 84, f 85, f 86, f 87, f 88, f 89, f 90, f 91, f 92, f 93, f 94, f 95, f 96, f 97, f 98, f 99, f 100, f 101, f 102, f 103, f 104, f 105, f 106, f 107, f 108, f 109, f 110, f 111, f 112, f 113], []⟩ _
  simp only at h0 h1 h7 h8
  simp only [h0, h1, h7, h8]
  clear h0 h1 h7 h8
  change Code.wp _ (Code.seq (hd (sq 3 body8)) (Code.seq (hd (sq 4 body8)) (Code.seq (hd (sq 5 body8)) (sq 6 body8)))) _ _ _
  generalize sq 6 body8 = REST at hK ⊢
  conv => arg 2; arg 1; whnf
  conv => arg 2; arg 2; arg 1; whnf
  conv => arg 2; arg 2; arg 2; arg 1; whnf
  go_wp2_with (go_at_call 16; refine (k16 _).mono ?_)
  intro e1 w1 hq
  first | (obtain ⟨rfl, b1⟩ : _ ∧ _ := hq) | (subst hq; intro b1)
  go_wp2_with (go_at_call 15; refine (k15 _).mono ?_)
  intro e2 w2 hq
  first | (obtain ⟨rfl, b2⟩ : _ ∧ _ := hq) | (subst hq; intro b2)
  go_wp2_with (go_at_call 36; refine (k36 _).mono ?_)
  intro e3 w3 hq
  first | (obtain ⟨rfl, b3⟩ : _ ∧ _ := hq) | (subst hq; intro b3)
  have B1 : Hid (Below w.heap.size w w3) := ((b1.trans (b2.mono b1.size)).alloc (Nat.le_trans b1.size b2.size) _).trans (b3.mono (by have := b1.size; have := b2.size; simp; omega))
  have r1 : Hid (w3.heap[w2.heap.size]? = some (.cells #[.int .i64 kd, .bool ng, .int .u64 (M : Int), .int .i64 X, .bool qu, .int .u64 (LD : Int)] 34 (0, 0))) := (b3.block _ (by simp)).trans (heap_alloc_last _ _)
  clear b1 b2 b3
  go_wp2
  exact hK.out _ _ _ B1.out r1.out ⟨rfl, rfl, rfl, rfl, rfl, rfl, rfl, rfl, rfl, trivial⟩
set_option maxRecDepth 100000 in
set_option maxHeartbeats 2000000 in
theorem l8_c4 {Q : Exit → Act → World → Prop} (b c V g : Nat) (m x : Int) (kd X : Int) (ng qu : Bool) (M LD _WV : Nat) (a : Act) (w : World) (r : Hid (w.heap[g]? = some (.cells #[.int .i64 kd, .bool ng, .int .u64 (M : Int), .int .i64 X, .bool qu, .int .u64 (LD : Int)] 34 (0, 0)))) (h4 : kd = 4) (hV : (FloatKind.f32.format.order V V == some .eq) = false)
    (hK : Hid (∀ a w', Below w.heap.size w w' → At 114 [(0, .int .u64 (b : Int)), (1, .int .u32 (c : Int)), (7, .int .i64 m), (8, .int .i64 x), (10, .pointer (some ⟨g, 0, none⟩)), (11, .float .f32 V), (12, .int .u64 0)] a → Code.wp Try.prog (sq 7 body8) Q a w')) (ha : At 114 [(0, .int .u64 (b : Int)), (1, .int .u32 (c : Int)), (7, .int .i64 m), (8, .int .i64 x), (10, .pointer (some ⟨g, 0, none⟩)), (11, .float .f32 V), (12, .int .u64 0)] a) : Code.wp Try.prog (sq 6 body8) Q a w := by
  subst h4
  obtain ⟨f, rfl, h0, h1, h7, h8, h10, h11, h12, -⟩ := ha.lit
  change Code.wp _ _ _ ⟨#[f 0, f 1, f 2, f 3, f 4, f 5, f 6, f 7, f 8, f 9, f 10, f 11, f 12, f 13, f 14, f 15, f 16, f 17, f 18, f 19, f 20, f 21, f 22, f 23, f 24, f 25, f 26, f 27, f 28, f 29, f 30, f 31, f 32, f 33, f 34, f 35, f 36, f 37, f 38, f 39, f 40, f 41, f 42, f 43, f 44, f 45, f 46, f 47, f 48, f 49, f 50, f 51, f 52, f 53, f 54, f 55, f 56, f 57, f 58, f 59, f 60, f 61, f 62, f 63, f 64, f 65, f 66, f 67, f 68, f 69, f 70, f 71, f 72, f 73, f 74, f 75, f 76, f 77, f 78, f 79, f 80, f 81, f 82, f 83, f 84, f 85, f 86, f 87, f 88, f 89, f 90, f 91, f 92, f 93, f 94, f 95, f 96, f 97, f 98, f 99, f 100, f 101, f 102, f 103, f 104, f 105, f 106, f 107, f 108, f 109, f 110, f 111, f 112, f 113], []⟩ _
  simp only at h0 h1 h7 h8 h10 h11 h12
  simp only [h0, h1, h7, h8, h10, h11, h12]
  clear h0 h1 h7 h8 h10 h11 h12
  change Code.wp _ (Code.seq (hd (sq 6 body8)) (sq 7 body8)) _ _ _
  generalize sq 7 body8 = REST at hK ⊢
  conv => arg 2; arg 1; whnf
  obtain ⟨m0, m1, m2, m3, m4, m5⟩ := cells6 r.out
  go_wp2
  exact hK.out _ _ (Below.refl _ _) ⟨rfl, rfl, rfl, rfl, rfl, rfl, rfl, rfl, rfl, trivial⟩
set_option maxRecDepth 100000 in
set_option maxHeartbeats 2000000 in
theorem l8_c3 {Q : Exit → Act → World → Prop} (b c V g : Nat) (m x : Int) (kd X : Int) (ng qu : Bool) (M LD WV : Nat) (a : Act) (w : World) (E : Int) (r : Hid (w.heap[g]? = some (.cells #[.int .i64 kd, .bool ng, .int .u64 (M : Int), .int .i64 X, .bool qu, .int .u64 (LD : Int)] 34 (0, 0)))) (h3 : kd = 3) (k17 : ∀ w, Calls Try.prog 17 #[] w fun e w' => e = .returned (.agg #[.int .i64 23, .int .i64 255, .int .i64 127]) ∧ Below w.heap.size w w')
    (k22 : ∀ w, Calls Try.prog 22 #[.agg #[.int .i64 kd, .bool ng, .int .u64 (M : Int), .int .i64 X, .bool qu, .int .u64 (LD : Int)], .agg #[.int .i64 23, .int .i64 255, .int .i64 127]] w fun e w' => e = .returned (.tuple #[.int .u64 (WV : Int), .int .i64 E]) ∧ Below w.heap.size w w')
    (hK : Hid (∀ a w', Below w.heap.size w w' → At 114 [(0, .int .u64 (b : Int)), (1, .int .u32 (c : Int)), (7, .int .i64 m), (8, .int .i64 x), (10, .pointer (some ⟨g, 0, none⟩)), (11, .float .f32 V), (12, .int .u64 (WV : Int))] a → Code.wp Try.prog (sq 7 body8) Q a w')) (ha : At 114 [(0, .int .u64 (b : Int)), (1, .int .u32 (c : Int)), (7, .int .i64 m), (8, .int .i64 x), (10, .pointer (some ⟨g, 0, none⟩)), (11, .float .f32 V), (12, .int .u64 0)] a) : Code.wp Try.prog (sq 6 body8) Q a w := by
  subst h3
  obtain ⟨f, rfl, h0, h1, h7, h8, h10, h11, h12, -⟩ := ha.lit
  change Code.wp _ _ _ ⟨#[f 0, f 1, f 2, f 3, f 4, f 5, f 6, f 7, f 8, f 9, f 10, f 11, f 12, f 13, f 14, f 15, f 16, f 17, f 18, f 19, f 20, f 21, f 22, f 23, f 24, f 25, f 26, f 27, f 28, f 29, f 30, f 31, f 32, f 33, f 34, f 35, f 36, f 37, f 38, f 39, f 40, f 41, f 42, f 43, f 44, f 45, f 46, f 47, f 48, f 49, f 50, f 51, f 52, f 53, f 54, f 55, f 56, f 57, f 58, f 59, f 60, f 61, f 62, f 63, f 64, f 65, f 66, f 67, f 68, f 69, f 70, f 71, f 72, f 73, f 74, f 75, f 76, f 77, f 78, f 79, f 80, f 81, f 82, f 83, f 84, f 85, f 86, f 87, f 88, f 89, f 90, f 91, f 92, f 93, f 94, f 95, f 96, f 97, f 98, f 99, f 100, f 101, f 102, f 103, f 104, f 105, f 106, f 107, f 108, f 109, f 110, f 111, f 112, f 113], []⟩ _
  simp only at h0 h1 h7 h8 h10 h11 h12
  simp only [h0, h1, h7, h8, h10, h11, h12]
  clear h0 h1 h7 h8 h10 h11 h12
  change Code.wp _ (Code.seq (hd (sq 6 body8)) (sq 7 body8)) _ _ _
  generalize sq 7 body8 = REST at hK ⊢
  conv => arg 2; arg 1; whnf
  obtain ⟨m0, m1, m2, m3, m4, m5⟩ := cells6 r.out
  go_wp2
  clear m0 m1 m2 m3 m4 m5
  refine wp_region_vals (a1 := ?a1r13n1) (grown _) [.agg #[.int .i64 3, .bool ng, .int .u64 (M : Int), .int .i64 X, .bool qu, .int .u64 (LD : Int)], .agg #[.int .i64 23, .int .i64 255, .int .i64 127], .tuple #[.int .u64 (WV : Int), .int .i64 E], .tuple #[.int .u64 (WV : Int), .int .i64 E], .int .u64 (WV : Int), .int .i64 E, .int .u64 (WV : Int)] 114 rfl (by kernel_rfl) (by kernel_rfl) (grown_start _) ⟨?o0r13n1, ?o1r13n1, ?o2r13n1, ?o3r13n1, ?o4r13n1, ?o5r13n1, ?o6r13n1, trivial⟩ ?har13n1 ?hdoner13n1
  case har13n1 => simp [putAll, Act.put]; exact rfl
  case o0r13n1 => exact ValOp.pure (grown_steady _ 0) [(10, .pointer (some ⟨g, 0, none⟩))] rfl (fun _ _ h2 => ⟨(h2 10 (by kernel_rfl)).trans rfl, trivial⟩) (by kernel_rfl) (fun _ _ _ hg _ => run_read rfl rfl (run_loadVar_row _ _ _ _ _ _ _ (below_at r.out hg) Try.underlying34 rfl (by kernel_rfl)))
  case o1r13n1 => exact ValOp.call (grown_steady _ 1) [] rfl (fun _ _ _ => trivial) (by kernel_rfl) 17 #[] (fun _ => by kernel_rfl) (fun _ w _ => k17 w)
  case o2r13n1 => exact ValOp.call (grown_steady _ 2) [(49, .agg #[.int .i64 3, .bool ng, .int .u64 (M : Int), .int .i64 X, .bool qu, .int .u64 (LD : Int)]), (50, .agg #[.int .i64 23, .int .i64 255, .int .i64 127])] rfl (fun _ h1 _ => ⟨h1 0 49 (by kernel_rfl), h1 1 50 (by kernel_rfl), trivial⟩) (by kernel_rfl) 22 #[.agg #[.int .i64 3, .bool ng, .int .u64 (M : Int), .int .i64 X, .bool qu, .int .u64 (LD : Int)], .agg #[.int .i64 23, .int .i64 255, .int .i64 127]] (fun _ => by kernel_rfl) (fun _ w _ => k22 w)
  case o3r13n1 => exact ValOp.pure (grown_steady _ 3) [(51, .tuple #[.int .u64 (WV : Int), .int .i64 E])] rfl (fun _ h1 _ => ⟨h1 2 51 (by kernel_rfl), trivial⟩) (by kernel_rfl) (fun _ _ _ _ _ => by kernel_rfl)
  case o4r13n1 => exact ValOp.pure (grown_steady _ 4) [(48, .tuple #[.int .u64 (WV : Int), .int .i64 E])] rfl (fun _ h1 _ => ⟨h1 3 48 (by kernel_rfl), trivial⟩) (by kernel_rfl) (fun _ _ _ _ _ => by kernel_rfl)
  case o5r13n1 => exact ValOp.pure (grown_steady _ 5) [(48, .tuple #[.int .u64 (WV : Int), .int .i64 E])] rfl (fun _ h1 _ => ⟨h1 3 48 (by kernel_rfl), trivial⟩) (by kernel_rfl) (fun _ _ _ _ _ => by kernel_rfl)
  case o6r13n1 => exact ValOp.pure (grown_steady _ 6) [(52, .int .u64 (WV : Int))] rfl (fun _ h1 _ => ⟨h1 4 52 (by kernel_rfl), trivial⟩) (by kernel_rfl) (fun _ _ _ _ _ => by kernel_rfl)
  intro w1 s1 _ bb
  have B1 : Hid (Below w.heap.size w w1) := bb
  clear bb
  go_wp2
  exact hK.out _ _ B1.out ⟨rfl, rfl, rfl, rfl, rfl, rfl, rfl, rfl, rfl, trivial⟩
set_option maxRecDepth 100000 in
set_option maxHeartbeats 2000000 in
theorem l8_cN {Q : Exit → Act → World → Prop} (b c V g : Nat) (m x : Int) (kd X : Int) (ng qu : Bool) (M LD WV : Nat) (a : Act) (w : World) (r : Hid (w.heap[g]? = some (.cells #[.int .i64 kd, .bool ng, .int .u64 (M : Int), .int .i64 X, .bool qu, .int .u64 (LD : Int)] 34 (0, 0)))) (h3 : (kd == 3) = false) (h4 : (kd == 4) = false) (k17 : ∀ w, Calls Try.prog 17 #[] w fun e w' => e = .returned (.agg #[.int .i64 23, .int .i64 255, .int .i64 127]) ∧ Below w.heap.size w w')
    (k37 : ∀ w, Calls Try.prog 37 #[.bool ng, .int .u64 (M : Int), .int .i64 X, .bool false, .agg #[.int .i64 23, .int .i64 255, .int .i64 127]] w fun e w' => e = .returned (.int .u64 (WV : Int)) ∧ Below w.heap.size w w')
    (hK : Hid (∀ a w', Below w.heap.size w w' → At 114 [(0, .int .u64 (b : Int)), (1, .int .u32 (c : Int)), (7, .int .i64 m), (8, .int .i64 x), (10, .pointer (some ⟨g, 0, none⟩)), (11, .float .f32 V), (12, .int .u64 (WV : Int))] a → Code.wp Try.prog (sq 7 body8) Q a w')) (ha : At 114 [(0, .int .u64 (b : Int)), (1, .int .u32 (c : Int)), (7, .int .i64 m), (8, .int .i64 x), (10, .pointer (some ⟨g, 0, none⟩)), (11, .float .f32 V), (12, .int .u64 0)] a) : Code.wp Try.prog (sq 6 body8) Q a w := by
  obtain ⟨f, rfl, h0, h1, h7, h8, h10, h11, h12, -⟩ := ha.lit
  change Code.wp _ _ _ ⟨#[f 0, f 1, f 2, f 3, f 4, f 5, f 6, f 7, f 8, f 9, f 10, f 11, f 12, f 13, f 14, f 15, f 16, f 17, f 18, f 19, f 20, f 21, f 22, f 23, f 24, f 25, f 26, f 27, f 28, f 29, f 30, f 31, f 32, f 33, f 34, f 35, f 36, f 37, f 38, f 39, f 40, f 41, f 42, f 43, f 44, f 45, f 46, f 47, f 48, f 49, f 50, f 51, f 52, f 53, f 54, f 55, f 56, f 57, f 58, f 59, f 60, f 61, f 62, f 63, f 64, f 65, f 66, f 67, f 68, f 69, f 70, f 71, f 72, f 73, f 74, f 75, f 76, f 77, f 78, f 79, f 80, f 81, f 82, f 83, f 84, f 85, f 86, f 87, f 88, f 89, f 90, f 91, f 92, f 93, f 94, f 95, f 96, f 97, f 98, f 99, f 100, f 101, f 102, f 103, f 104, f 105, f 106, f 107, f 108, f 109, f 110, f 111, f 112, f 113], []⟩ _
  simp only at h0 h1 h7 h8 h10 h11 h12
  simp only [h0, h1, h7, h8, h10, h11, h12]
  clear h0 h1 h7 h8 h10 h11 h12
  change Code.wp _ (Code.seq (hd (sq 6 body8)) (sq 7 body8)) _ _ _
  generalize sq 7 body8 = REST at hK ⊢
  conv => arg 2; arg 1; whnf
  obtain ⟨m0, m1, m2, m3, m4, m5⟩ := cells6 r.out
  go_wp2
  clear m0 m1 m2 m3 m4 m5
  refine wp_region_vals (a1 := ?a1r8n2) (grown _) [.pointer (some ⟨g, 1, none⟩), .bool ng, .pointer (some ⟨g, 2, none⟩), .int .u64 (M : Int), .pointer (some ⟨g, 3, none⟩), .int .i64 X, .agg #[.int .i64 23, .int .i64 255, .int .i64 127], .int .u64 (WV : Int), .int .u64 (WV : Int)] 114 rfl (by kernel_rfl) (by kernel_rfl) (grown_start _) ⟨?o0r8n2, ?o1r8n2, ?o2r8n2, ?o3r8n2, ?o4r8n2, ?o5r8n2, ?o6r8n2, ?o7r8n2, ?o8r8n2, trivial⟩ ?har8n2 ?hdoner8n2
  case har8n2 => simp [putAll, Act.put]; exact rfl
  case o0r8n2 => exact ValOp.pure (grown_steady _ 0) [(10, .pointer (some ⟨g, 0, none⟩))] rfl (fun _ _ h2 => ⟨(h2 10 (by kernel_rfl)).trans rfl, trivial⟩) (by kernel_rfl) (fun _ _ _ _ _ => by kernel_rfl)
  case o1r8n2 => exact ValOp.pure (grown_steady _ 1) [(33, .pointer (some ⟨g, 1, none⟩))] rfl (fun _ h1 _ => ⟨h1 0 33 (by kernel_rfl), trivial⟩) (by kernel_rfl) (fun _ _ _ hg _ => run_read rfl rfl (run_cell (below_at r.out hg) rfl (Try.isAgg4 _)))
  case o2r8n2 => exact ValOp.pure (grown_steady _ 2) [(10, .pointer (some ⟨g, 0, none⟩))] rfl (fun _ _ h2 => ⟨(h2 10 (by kernel_rfl)).trans rfl, trivial⟩) (by kernel_rfl) (fun _ _ _ _ _ => by kernel_rfl)
  case o3r8n2 => exact ValOp.pure (grown_steady _ 3) [(35, .pointer (some ⟨g, 2, none⟩))] rfl (fun _ h1 _ => ⟨h1 2 35 (by kernel_rfl), trivial⟩) (by kernel_rfl) (fun _ _ _ hg _ => run_read rfl rfl (run_cell (below_at r.out hg) rfl (Try.isAgg22 _)))
  case o4r8n2 => exact ValOp.pure (grown_steady _ 4) [(10, .pointer (some ⟨g, 0, none⟩))] rfl (fun _ _ h2 => ⟨(h2 10 (by kernel_rfl)).trans rfl, trivial⟩) (by kernel_rfl) (fun _ _ _ _ _ => by kernel_rfl)
  case o5r8n2 => exact ValOp.pure (grown_steady _ 5) [(37, .pointer (some ⟨g, 3, none⟩))] rfl (fun _ h1 _ => ⟨h1 4 37 (by kernel_rfl), trivial⟩) (by kernel_rfl) (fun _ _ _ hg _ => run_read rfl rfl (run_cell (below_at r.out hg) rfl (Try.isAgg3 _)))
  case o6r8n2 => exact ValOp.call (grown_steady _ 6) [] rfl (fun _ _ _ => trivial) (by kernel_rfl) 17 #[] (fun _ => by kernel_rfl) (fun _ w _ => k17 w)
  case o7r8n2 => exact ValOp.call (grown_steady _ 7) [(34, .bool ng), (36, .int .u64 (M : Int)), (38, .int .i64 X), (39, .agg #[.int .i64 23, .int .i64 255, .int .i64 127])] rfl (fun _ h1 _ => ⟨h1 1 34 (by kernel_rfl), h1 3 36 (by kernel_rfl), h1 5 38 (by kernel_rfl), h1 6 39 (by kernel_rfl), trivial⟩) (by kernel_rfl) 37 #[.bool ng, .int .u64 (M : Int), .int .i64 X, .bool false, .agg #[.int .i64 23, .int .i64 255, .int .i64 127]] (fun _ => by kernel_rfl) (fun _ w _ => k37 w)
  case o8r8n2 => exact ValOp.pure (grown_steady _ 8) [(40, .int .u64 (WV : Int))] rfl (fun _ h1 _ => ⟨h1 7 40 (by kernel_rfl), trivial⟩) (by kernel_rfl) (fun _ _ _ _ _ => by kernel_rfl)
  intro w1 s1 _ bb
  have B1 : Hid (Below w.heap.size w w1) := bb
  clear bb
  go_wp2
  exact hK.out _ _ B1.out ⟨rfl, rfl, rfl, rfl, rfl, rfl, rfl, rfl, rfl, trivial⟩
set_option maxRecDepth 100000 in
set_option maxHeartbeats 2000000 in
theorem l8_d4 {Q : Exit → Act → World → Prop} (b c V g : Nat) (m x : Int) (kd X : Int) (ng qu : Bool) (M LD WV : Nat) (a : Act) (w : World) (r : Hid (w.heap[g]? = some (.cells #[.int .i64 kd, .bool ng, .int .u64 (M : Int), .int .i64 X, .bool qu, .int .u64 (LD : Int)] 34 (0, 0)))) (h4 : kd = 4)
    (hK : Hid (∀ a w', Below w.heap.size w w' → At 114 [(0, .int .u64 (b : Int)), (1, .int .u32 (c : Int)), (7, .int .i64 m), (8, .int .i64 x)] a → Code.wp Try.prog (sq 8 body8) Q a w')) (ha : At 114 [(0, .int .u64 (b : Int)), (1, .int .u32 (c : Int)), (7, .int .i64 m), (8, .int .i64 x), (10, .pointer (some ⟨g, 0, none⟩)), (11, .float .f32 V), (12, .int .u64 (WV : Int))] a) : Code.wp Try.prog (sq 7 body8) Q a w := by
  subst h4
  obtain ⟨f, rfl, h0, h1, h7, h8, h10, h11, h12, -⟩ := ha.lit
  change Code.wp _ _ _ ⟨#[f 0, f 1, f 2, f 3, f 4, f 5, f 6, f 7, f 8, f 9, f 10, f 11, f 12, f 13, f 14, f 15, f 16, f 17, f 18, f 19, f 20, f 21, f 22, f 23, f 24, f 25, f 26, f 27, f 28, f 29, f 30, f 31, f 32, f 33, f 34, f 35, f 36, f 37, f 38, f 39, f 40, f 41, f 42, f 43, f 44, f 45, f 46, f 47, f 48, f 49, f 50, f 51, f 52, f 53, f 54, f 55, f 56, f 57, f 58, f 59, f 60, f 61, f 62, f 63, f 64, f 65, f 66, f 67, f 68, f 69, f 70, f 71, f 72, f 73, f 74, f 75, f 76, f 77, f 78, f 79, f 80, f 81, f 82, f 83, f 84, f 85, f 86, f 87, f 88, f 89, f 90, f 91, f 92, f 93, f 94, f 95, f 96, f 97, f 98, f 99, f 100, f 101, f 102, f 103, f 104, f 105, f 106, f 107, f 108, f 109, f 110, f 111, f 112, f 113], []⟩ _
  simp only at h0 h1 h7 h8 h10 h11 h12
  simp only [h0, h1, h7, h8, h10, h11, h12]
  clear h0 h1 h7 h8 h10 h11 h12
  change Code.wp _ (Code.seq (hd (sq 7 body8)) (sq 8 body8)) _ _ _
  generalize sq 8 body8 = REST at hK ⊢
  conv => arg 2; arg 1; whnf
  obtain ⟨m0, m1, m2, m3, m4, m5⟩ := cells6 r.out
  go_wp2
  exact hK.out _ _ (Below.refl _ _) ⟨rfl, rfl, rfl, rfl, rfl, rfl, trivial⟩
set_option maxRecDepth 100000 in
set_option maxHeartbeats 2000000 in
theorem l8_dN {Q : Exit → Act → World → Prop} (b c V g : Nat) (m x : Int) (kd X : Int) (ng qu : Bool) (M LD WV : Nat) (a : Act) (w : World) (r : Hid (w.heap[g]? = some (.cells #[.int .i64 kd, .bool ng, .int .u64 (M : Int), .int .i64 X, .bool qu, .int .u64 (LD : Int)] 34 (0, 0)))) (_h4 : (kd == 4) = false) (h4n : ¬ kd = 4)
    (k38 : ∀ w, Calls Try.prog 38 #[.float .f32 V, .int .u64 (WV : Int)] w fun e w' => e = .returned (.bool true) ∧ Below w.heap.size w w')
    (hK : Hid (∀ a w', Below w.heap.size w w' → At 114 [(0, .int .u64 (b : Int)), (1, .int .u32 (c : Int)), (7, .int .i64 m), (8, .int .i64 x)] a → Code.wp Try.prog (sq 8 body8) Q a w')) (ha : At 114 [(0, .int .u64 (b : Int)), (1, .int .u32 (c : Int)), (7, .int .i64 m), (8, .int .i64 x), (10, .pointer (some ⟨g, 0, none⟩)), (11, .float .f32 V), (12, .int .u64 (WV : Int))] a) : Code.wp Try.prog (sq 7 body8) Q a w := by
  obtain ⟨f, rfl, h0, h1, h7, h8, h10, h11, h12, -⟩ := ha.lit
  change Code.wp _ _ _ ⟨#[f 0, f 1, f 2, f 3, f 4, f 5, f 6, f 7, f 8, f 9, f 10, f 11, f 12, f 13, f 14, f 15, f 16, f 17, f 18, f 19, f 20, f 21, f 22, f 23, f 24, f 25, f 26, f 27, f 28, f 29, f 30, f 31, f 32, f 33, f 34, f 35, f 36, f 37, f 38, f 39, f 40, f 41, f 42, f 43, f 44, f 45, f 46, f 47, f 48, f 49, f 50, f 51, f 52, f 53, f 54, f 55, f 56, f 57, f 58, f 59, f 60, f 61, f 62, f 63, f 64, f 65, f 66, f 67, f 68, f 69, f 70, f 71, f 72, f 73, f 74, f 75, f 76, f 77, f 78, f 79, f 80, f 81, f 82, f 83, f 84, f 85, f 86, f 87, f 88, f 89, f 90, f 91, f 92, f 93, f 94, f 95, f 96, f 97, f 98, f 99, f 100, f 101, f 102, f 103, f 104, f 105, f 106, f 107, f 108, f 109, f 110, f 111, f 112, f 113], []⟩ _
  simp only at h0 h1 h7 h8 h10 h11 h12
  simp only [h0, h1, h7, h8, h10, h11, h12]
  clear h0 h1 h7 h8 h10 h11 h12
  change Code.wp _ (Code.seq (hd (sq 7 body8)) (sq 8 body8)) _ _ _
  generalize sq 8 body8 = REST at hK ⊢
  conv => arg 2; arg 1; whnf
  obtain ⟨m0, m1, m2, m3, m4, m5⟩ := cells6 r.out
  go_wp2_with (go_at_call 38; refine (k38 _).mono ?_)
  intro e1 w1 hq
  first | (obtain ⟨rfl, b1⟩ : _ ∧ _ := hq) | (subst hq; intro b1)
  have B1 : Hid (Below w.heap.size w w1) := b1
  clear b1
  go_wp2
  exact hK.out _ _ B1.out ⟨rfl, rfl, rfl, rfl, rfl, rfl, trivial⟩
set_option maxRecDepth 100000 in
set_option maxHeartbeats 2000000 in
theorem l8_e {Q : Exit → Act → World → Prop} (b c W : Nat) (m x : Int) (kd X : Int) (ng qu : Bool) (M LD : Nat) (a : Act) (w : World) (hcw : IntKind.u64.wrap (c : Int) = c) (k17 : ∀ w, Calls Try.prog 17 #[] w fun e w' => e = .returned (.agg #[.int .i64 23, .int .i64 255, .int .i64 127]) ∧ Below w.heap.size w w')
    (k15 : ∀ w, Calls Try.prog 15 #[.int .u64 (c : Int), .agg #[.int .i64 23, .int .i64 255, .int .i64 127]] w fun e w' => e = .returned (.agg #[.int .i64 kd, .bool ng, .int .u64 (M : Int), .int .i64 X, .bool qu, .int .u64 (LD : Int)]) ∧ Below w.heap.size w w')
    (k39 : ∀ w, Calls Try.prog 39 #[.float .f32 c] w fun e w' => e = .returned (.float .f64 W) ∧ Below w.heap.size w w')
    (hK : Hid (∀ a w' g, Below w.heap.size w w' → w'.heap[g]? = some (.cells #[.int .i64 kd, .bool ng, .int .u64 (M : Int), .int .i64 X, .bool qu, .int .u64 (LD : Int)] 34 (0, 0)) → At 114 [(0, .int .u64 (b : Int)), (1, .int .u32 (c : Int)), (7, .int .i64 m), (8, .int .i64 x), (14, .pointer (some ⟨g, 0, none⟩)), (15, .float .f64 W)] a → Code.wp Try.prog (sq 11 body8) Q a w')) (ha : At 114 [(0, .int .u64 (b : Int)), (1, .int .u32 (c : Int)), (7, .int .i64 m), (8, .int .i64 x)] a) :
    Code.wp Try.prog (sq 8 body8) Q a w := by
  have x11 := ext11
  obtain ⟨f, rfl, h0, h1, h7, h8, -⟩ := ha.lit
  change Code.wp _ _ _ ⟨#[f 0, f 1, f 2, f 3, f 4, f 5, f 6, f 7, f 8, f 9, f 10, f 11, f 12, f 13, f 14, f 15, f 16, f 17, f 18, f 19, f 20, f 21, f 22, f 23, f 24, f 25, f 26, f 27, f 28, f 29, f 30, f 31, f 32, f 33, f 34, f 35, f 36, f 37, f 38, f 39, f 40, f 41, f 42, f 43, f 44, f 45, f 46, f 47, f 48, f 49, f 50, f 51, f 52, f 53, f 54, f 55, f 56, f 57, f 58, f 59, f 60, f 61, f 62, f 63, f 64, f 65, f 66, f 67, f 68, f 69, f 70, f 71, f 72, f 73, f 74, f 75, f 76, f 77, f 78, f 79, f 80, f 81, f 82, f 83, f 84, f 85, f 86, f 87, f 88, f 89, f 90, f 91, f 92, f 93, f 94, f 95, f 96, f 97, f 98, f 99, f 100, f 101, f 102, f 103, f 104, f 105, f 106, f 107, f 108, f 109, f 110, f 111, f 112, f 113], []⟩ _
  simp only at h0 h1 h7 h8
  simp only [h0, h1, h7, h8]
  clear h0 h1 h7 h8
  change Code.wp _ (Code.seq (hd (sq 8 body8)) (Code.seq (hd (sq 9 body8)) (Code.seq (hd (sq 10 body8)) (sq 11 body8)))) _ _ _
  generalize sq 11 body8 = REST at hK ⊢
  conv => arg 2; arg 1; whnf
  conv => arg 2; arg 2; arg 1; whnf
  conv => arg 2; arg 2; arg 2; arg 1; whnf
  go_wp2_with (go_at_call 17; refine (k17 _).mono ?_)
  intro e1 w1 hq
  first | (obtain ⟨rfl, b1⟩ : _ ∧ _ := hq) | (subst hq; intro b1)
  go_wp2_with (go_at_call 15; refine (k15 _).mono ?_)
  intro e2 w2 hq
  first | (obtain ⟨rfl, b2⟩ : _ ∧ _ := hq) | (subst hq; intro b2)
  go_wp2_with (go_at_call 39; refine (k39 _).mono ?_)
  intro e3 w3 hq
  first | (obtain ⟨rfl, b3⟩ : _ ∧ _ := hq) | (subst hq; intro b3)
  have B1 : Hid (Below w.heap.size w w3) := ((b1.trans (b2.mono b1.size)).alloc (Nat.le_trans b1.size b2.size) _).trans (b3.mono (by have := b1.size; have := b2.size; simp; omega))
  have r1 : Hid (w3.heap[w2.heap.size]? = some (.cells #[.int .i64 kd, .bool ng, .int .u64 (M : Int), .int .i64 X, .bool qu, .int .u64 (LD : Int)] 34 (0, 0))) := (b3.block _ (by simp)).trans (heap_alloc_last _ _)
  clear b1 b2 b3
  go_wp2
  exact hK.out _ _ _ B1.out r1.out ⟨rfl, rfl, rfl, rfl, rfl, rfl, rfl, rfl, trivial⟩
set_option maxRecDepth 100000 in
set_option maxHeartbeats 2000000 in
theorem l8_f4 (b c W g : Nat) (m x : Int) (kd X : Int) (ng qu : Bool) (M LD _UV : Nat) (a : Act) (w : World) (w0 : World) (B : Hid (Below w0.heap.size w0 w)) (r : Hid (w.heap[g]? = some (.cells #[.int .i64 kd, .bool ng, .int .u64 (M : Int), .int .i64 X, .bool qu, .int .u64 (LD : Int)] 34 (0, 0)))) (h4 : kd = 4) (hW : (FloatKind.f64.format.order W W != some .eq) = true) (k40 : ∀ w, Calls Try.prog 40 #[.int .i64 m, .int .i64 x] w fun e w' => e = .returned (.bool true) ∧ Below w.heap.size w w')
    (ha : At 114 [(0, .int .u64 (b : Int)), (1, .int .u32 (c : Int)), (7, .int .i64 m), (8, .int .i64 x), (14, .pointer (some ⟨g, 0, none⟩)), (15, .float .f64 W)] a) : Code.wp Try.prog (sq 11 body8) (bodyPost Try.prog Try.f8 fun r w' => r = .returned (.bool true) ∧ Below w0.heap.size w0 w') a w := by
  subst h4
  obtain ⟨f, rfl, h0, h1, h7, h8, h14, h15, -⟩ := ha.lit
  change Code.wp _ _ _ ⟨#[f 0, f 1, f 2, f 3, f 4, f 5, f 6, f 7, f 8, f 9, f 10, f 11, f 12, f 13, f 14, f 15, f 16, f 17, f 18, f 19, f 20, f 21, f 22, f 23, f 24, f 25, f 26, f 27, f 28, f 29, f 30, f 31, f 32, f 33, f 34, f 35, f 36, f 37, f 38, f 39, f 40, f 41, f 42, f 43, f 44, f 45, f 46, f 47, f 48, f 49, f 50, f 51, f 52, f 53, f 54, f 55, f 56, f 57, f 58, f 59, f 60, f 61, f 62, f 63, f 64, f 65, f 66, f 67, f 68, f 69, f 70, f 71, f 72, f 73, f 74, f 75, f 76, f 77, f 78, f 79, f 80, f 81, f 82, f 83, f 84, f 85, f 86, f 87, f 88, f 89, f 90, f 91, f 92, f 93, f 94, f 95, f 96, f 97, f 98, f 99, f 100, f 101, f 102, f 103, f 104, f 105, f 106, f 107, f 108, f 109, f 110, f 111, f 112, f 113], []⟩ _
  simp only at h0 h1 h7 h8 h14 h15
  simp only [h0, h1, h7, h8, h14, h15]
  clear h0 h1 h7 h8 h14 h15
  conv => arg 2; whnf
  obtain ⟨m0, m1, m2, m3, m4, m5⟩ := cells6 r.out
  go_wp2_with (go_at_call 40; refine (k40 _).mono ?_)
  intro e1 w1 hq
  first | (obtain ⟨rfl, b1⟩ : _ ∧ _ := hq) | (subst hq; intro b1)
  have B1 : Hid (Below w0.heap.size w0 w1) := B.out.trans (b1.mono B.out.size)
  clear b1
  go_wp2
  go_ret
  exact ⟨rfl, B1.out⟩
set_option maxRecDepth 100000 in
set_option maxHeartbeats 2000000 in
theorem l8_fN {Q : Exit → Act → World → Prop} (b c W g : Nat) (m x : Int) (kd X : Int) (ng qu : Bool) (M LD _UV : Nat) (a : Act) (w : World) (r : Hid (w.heap[g]? = some (.cells #[.int .i64 kd, .bool ng, .int .u64 (M : Int), .int .i64 X, .bool qu, .int .u64 (LD : Int)] 34 (0, 0)))) (h4 : (kd == 4) = false)
    (hK : Hid (∀ a w', Below w.heap.size w w' → At 114 [(0, .int .u64 (b : Int)), (1, .int .u32 (c : Int)), (7, .int .i64 m), (8, .int .i64 x), (14, .pointer (some ⟨g, 0, none⟩)), (15, .float .f64 W)] a → Code.wp Try.prog (sq 12 body8) Q a w')) (ha : At 114 [(0, .int .u64 (b : Int)), (1, .int .u32 (c : Int)), (7, .int .i64 m), (8, .int .i64 x), (14, .pointer (some ⟨g, 0, none⟩)), (15, .float .f64 W)] a) : Code.wp Try.prog (sq 11 body8) Q a w := by
  obtain ⟨f, rfl, h0, h1, h7, h8, h14, h15, -⟩ := ha.lit
  change Code.wp _ _ _ ⟨#[f 0, f 1, f 2, f 3, f 4, f 5, f 6, f 7, f 8, f 9, f 10, f 11, f 12, f 13, f 14, f 15, f 16, f 17, f 18, f 19, f 20, f 21, f 22, f 23, f 24, f 25, f 26, f 27, f 28, f 29, f 30, f 31, f 32, f 33, f 34, f 35, f 36, f 37, f 38, f 39, f 40, f 41, f 42, f 43, f 44, f 45, f 46, f 47, f 48, f 49, f 50, f 51, f 52, f 53, f 54, f 55, f 56, f 57, f 58, f 59, f 60, f 61, f 62, f 63, f 64, f 65, f 66, f 67, f 68, f 69, f 70, f 71, f 72, f 73, f 74, f 75, f 76, f 77, f 78, f 79, f 80, f 81, f 82, f 83, f 84, f 85, f 86, f 87, f 88, f 89, f 90, f 91, f 92, f 93, f 94, f 95, f 96, f 97, f 98, f 99, f 100, f 101, f 102, f 103, f 104, f 105, f 106, f 107, f 108, f 109, f 110, f 111, f 112, f 113], []⟩ _
  simp only at h0 h1 h7 h8 h14 h15
  simp only [h0, h1, h7, h8, h14, h15]
  clear h0 h1 h7 h8 h14 h15
  change Code.wp _ (Code.seq (hd (sq 11 body8)) (sq 12 body8)) _ _ _
  generalize sq 12 body8 = REST at hK ⊢
  conv => arg 2; arg 1; whnf
  obtain ⟨m0, m1, m2, m3, m4, m5⟩ := cells6 r.out
  go_wp2
  exact hK.out _ _ (Below.refl _ _) ⟨rfl, rfl, rfl, rfl, rfl, rfl, rfl, rfl, trivial⟩
set_option maxRecDepth 100000 in
set_option maxHeartbeats 2000000 in
theorem l8_g {Q : Exit → Act → World → Prop} (b c W g : Nat) (m x : Int) (kd X : Int) (ng qu : Bool) (M LD UV : Nat) (a : Act) (w : World) (E : Int) (r : Hid (w.heap[g]? = some (.cells #[.int .i64 kd, .bool ng, .int .u64 (M : Int), .int .i64 X, .bool qu, .int .u64 (LD : Int)] 34 (0, 0)))) (k16 : ∀ w, Calls Try.prog 16 #[] w fun e w' => e = .returned (.agg #[.int .i64 52, .int .i64 2047, .int .i64 1023]) ∧ Below w.heap.size w w')
    (k22 : ∀ w, Calls Try.prog 22 #[.agg #[.int .i64 kd, .bool ng, .int .u64 (M : Int), .int .i64 X, .bool qu, .int .u64 (LD : Int)], .agg #[.int .i64 52, .int .i64 2047, .int .i64 1023]] w fun e w' => e = .returned (.tuple #[.int .u64 (UV : Int), .int .i64 E]) ∧ Below w.heap.size w w')
    (hK : Hid (∀ a w', Below w.heap.size w w' → At 114 [(0, .int .u64 (b : Int)), (1, .int .u32 (c : Int)), (7, .int .i64 m), (8, .int .i64 x), (14, .pointer (some ⟨g, 0, none⟩)), (15, .float .f64 W), (16, .int .u64 (UV : Int))] a → Code.wp Try.prog (sq 13 body8) Q a w')) (ha : At 114 [(0, .int .u64 (b : Int)), (1, .int .u32 (c : Int)), (7, .int .i64 m), (8, .int .i64 x), (14, .pointer (some ⟨g, 0, none⟩)), (15, .float .f64 W)] a) : Code.wp Try.prog (sq 12 body8) Q a w := by
  obtain ⟨f, rfl, h0, h1, h7, h8, h14, h15, -⟩ := ha.lit
  change Code.wp _ _ _ ⟨#[f 0, f 1, f 2, f 3, f 4, f 5, f 6, f 7, f 8, f 9, f 10, f 11, f 12, f 13, f 14, f 15, f 16, f 17, f 18, f 19, f 20, f 21, f 22, f 23, f 24, f 25, f 26, f 27, f 28, f 29, f 30, f 31, f 32, f 33, f 34, f 35, f 36, f 37, f 38, f 39, f 40, f 41, f 42, f 43, f 44, f 45, f 46, f 47, f 48, f 49, f 50, f 51, f 52, f 53, f 54, f 55, f 56, f 57, f 58, f 59, f 60, f 61, f 62, f 63, f 64, f 65, f 66, f 67, f 68, f 69, f 70, f 71, f 72, f 73, f 74, f 75, f 76, f 77, f 78, f 79, f 80, f 81, f 82, f 83, f 84, f 85, f 86, f 87, f 88, f 89, f 90, f 91, f 92, f 93, f 94, f 95, f 96, f 97, f 98, f 99, f 100, f 101, f 102, f 103, f 104, f 105, f 106, f 107, f 108, f 109, f 110, f 111, f 112, f 113], []⟩ _
  simp only at h0 h1 h7 h8 h14 h15
  simp only [h0, h1, h7, h8, h14, h15]
  clear h0 h1 h7 h8 h14 h15
  change Code.wp _ (Code.seq (hd (sq 12 body8)) (sq 13 body8)) _ _ _
  generalize sq 13 body8 = REST at hK ⊢
  conv => arg 2; arg 1; whnf
  go_wp2
  refine wp_region_vals (a1 := ?a1r21n3) (grown _) [.agg #[.int .i64 kd, .bool ng, .int .u64 (M : Int), .int .i64 X, .bool qu, .int .u64 (LD : Int)], .agg #[.int .i64 52, .int .i64 2047, .int .i64 1023], .tuple #[.int .u64 (UV : Int), .int .i64 E], .tuple #[.int .u64 (UV : Int), .int .i64 E], .int .u64 (UV : Int), .int .i64 E, .int .u64 (UV : Int), .int .i64 E] 114 rfl (by kernel_rfl) (by kernel_rfl) (grown_start _) ⟨?o0r21n3, ?o1r21n3, ?o2r21n3, ?o3r21n3, ?o4r21n3, ?o5r21n3, ?o6r21n3, ?o7r21n3, trivial⟩ ?har21n3 ?hdoner21n3
  case har21n3 => simp [putAll, Act.put]; exact rfl
  case o0r21n3 => exact ValOp.pure (grown_steady _ 0) [(14, .pointer (some ⟨g, 0, none⟩))] rfl (fun _ _ h2 => ⟨(h2 14 (by kernel_rfl)).trans rfl, trivial⟩) (by kernel_rfl) (fun _ _ _ hg _ => run_read rfl rfl (run_loadVar_row _ _ _ _ _ _ _ (below_at r.out hg) Try.underlying34 rfl (by kernel_rfl)))
  case o1r21n3 => exact ValOp.call (grown_steady _ 1) [] rfl (fun _ _ _ => trivial) (by kernel_rfl) 16 #[] (fun _ => by kernel_rfl) (fun _ w _ => k16 w)
  case o2r21n3 => exact ValOp.call (grown_steady _ 2) [(83, .agg #[.int .i64 kd, .bool ng, .int .u64 (M : Int), .int .i64 X, .bool qu, .int .u64 (LD : Int)]), (84, .agg #[.int .i64 52, .int .i64 2047, .int .i64 1023])] rfl (fun _ h1 _ => ⟨h1 0 83 (by kernel_rfl), h1 1 84 (by kernel_rfl), trivial⟩) (by kernel_rfl) 22 #[.agg #[.int .i64 kd, .bool ng, .int .u64 (M : Int), .int .i64 X, .bool qu, .int .u64 (LD : Int)], .agg #[.int .i64 52, .int .i64 2047, .int .i64 1023]] (fun _ => by kernel_rfl) (fun _ w _ => k22 w)
  case o3r21n3 => exact ValOp.pure (grown_steady _ 3) [(85, .tuple #[.int .u64 (UV : Int), .int .i64 E])] rfl (fun _ h1 _ => ⟨h1 2 85 (by kernel_rfl), trivial⟩) (by kernel_rfl) (fun _ _ _ _ _ => by kernel_rfl)
  case o4r21n3 => exact ValOp.pure (grown_steady _ 4) [(82, .tuple #[.int .u64 (UV : Int), .int .i64 E])] rfl (fun _ h1 _ => ⟨h1 3 82 (by kernel_rfl), trivial⟩) (by kernel_rfl) (fun _ _ _ _ _ => by kernel_rfl)
  case o5r21n3 => exact ValOp.pure (grown_steady _ 5) [(82, .tuple #[.int .u64 (UV : Int), .int .i64 E])] rfl (fun _ h1 _ => ⟨h1 3 82 (by kernel_rfl), trivial⟩) (by kernel_rfl) (fun _ _ _ _ _ => by kernel_rfl)
  case o6r21n3 => exact ValOp.pure (grown_steady _ 6) [(86, .int .u64 (UV : Int))] rfl (fun _ h1 _ => ⟨h1 4 86 (by kernel_rfl), trivial⟩) (by kernel_rfl) (fun _ _ _ _ _ => by kernel_rfl)
  case o7r21n3 => exact ValOp.pure (grown_steady _ 7) [(87, .int .i64 E)] rfl (fun _ h1 _ => ⟨h1 5 87 (by kernel_rfl), trivial⟩) (by kernel_rfl) (fun _ _ _ _ _ => by kernel_rfl)
  intro w1 s1 _ bb
  have B1 : Hid (Below w.heap.size w w1) := bb
  clear bb
  go_wp2
  exact hK.out _ _ B1.out ⟨rfl, rfl, rfl, rfl, rfl, rfl, rfl, rfl, rfl, trivial⟩
set_option maxRecDepth 100000 in
set_option maxHeartbeats 2000000 in
theorem l8_h3 {Q : Exit → Act → World → Prop} (b c W g : Nat) (m x : Int) (kd X : Int) (ng qu : Bool) (M LD UV : Nat) (a : Act) (w : World) (r : Hid (w.heap[g]? = some (.cells #[.int .i64 kd, .bool ng, .int .u64 (M : Int), .int .i64 X, .bool qu, .int .u64 (LD : Int)] 34 (0, 0)))) (h3 : kd = 3)
    (hK : Hid (∀ a w', Below w.heap.size w w' → At 114 [(0, .int .u64 (b : Int)), (1, .int .u32 (c : Int)), (7, .int .i64 m), (8, .int .i64 x), (15, .float .f64 W), (16, .int .u64 (UV : Int))] a → Code.wp Try.prog (sq 14 body8) Q a w')) (ha : At 114 [(0, .int .u64 (b : Int)), (1, .int .u32 (c : Int)), (7, .int .i64 m), (8, .int .i64 x), (14, .pointer (some ⟨g, 0, none⟩)), (15, .float .f64 W), (16, .int .u64 (UV : Int))] a) : Code.wp Try.prog (sq 13 body8) Q a w := by
  subst h3
  obtain ⟨f, rfl, h0, h1, h7, h8, h14, h15, h16, -⟩ := ha.lit
  change Code.wp _ _ _ ⟨#[f 0, f 1, f 2, f 3, f 4, f 5, f 6, f 7, f 8, f 9, f 10, f 11, f 12, f 13, f 14, f 15, f 16, f 17, f 18, f 19, f 20, f 21, f 22, f 23, f 24, f 25, f 26, f 27, f 28, f 29, f 30, f 31, f 32, f 33, f 34, f 35, f 36, f 37, f 38, f 39, f 40, f 41, f 42, f 43, f 44, f 45, f 46, f 47, f 48, f 49, f 50, f 51, f 52, f 53, f 54, f 55, f 56, f 57, f 58, f 59, f 60, f 61, f 62, f 63, f 64, f 65, f 66, f 67, f 68, f 69, f 70, f 71, f 72, f 73, f 74, f 75, f 76, f 77, f 78, f 79, f 80, f 81, f 82, f 83, f 84, f 85, f 86, f 87, f 88, f 89, f 90, f 91, f 92, f 93, f 94, f 95, f 96, f 97, f 98, f 99, f 100, f 101, f 102, f 103, f 104, f 105, f 106, f 107, f 108, f 109, f 110, f 111, f 112, f 113], []⟩ _
  simp only at h0 h1 h7 h8 h14 h15 h16
  simp only [h0, h1, h7, h8, h14, h15, h16]
  clear h0 h1 h7 h8 h14 h15 h16
  change Code.wp _ (Code.seq (hd (sq 13 body8)) (sq 14 body8)) _ _ _
  generalize sq 14 body8 = REST at hK ⊢
  conv => arg 2; arg 1; whnf
  obtain ⟨m0, m1, m2, m3, m4, m5⟩ := cells6 r.out
  go_wp2
  exact hK.out _ _ (Below.refl _ _) ⟨rfl, rfl, rfl, rfl, rfl, rfl, rfl, rfl, trivial⟩
set_option maxRecDepth 100000 in
set_option maxHeartbeats 2000000 in
theorem l8_hN {Q : Exit → Act → World → Prop} (b c W g : Nat) (m x : Int) (kd X : Int) (ng qu : Bool) (M LD UV : Nat) (a : Act) (w : World) (WV : Nat) (r : Hid (w.heap[g]? = some (.cells #[.int .i64 kd, .bool ng, .int .u64 (M : Int), .int .i64 X, .bool qu, .int .u64 (LD : Int)] 34 (0, 0)))) (h3 : (kd == 3) = false) (k16 : ∀ w, Calls Try.prog 16 #[] w fun e w' => e = .returned (.agg #[.int .i64 52, .int .i64 2047, .int .i64 1023]) ∧ Below w.heap.size w w')
    (k37 : ∀ w, Calls Try.prog 37 #[.bool ng, .int .u64 (M : Int), .int .i64 X, .bool false, .agg #[.int .i64 52, .int .i64 2047, .int .i64 1023]] w fun e w' => e = .returned (.int .u64 (WV : Int)) ∧ Below w.heap.size w w')
    (hK : Hid (∀ a w', Below w.heap.size w w' → At 114 [(0, .int .u64 (b : Int)), (1, .int .u32 (c : Int)), (7, .int .i64 m), (8, .int .i64 x), (15, .float .f64 W), (16, .int .u64 (WV : Int))] a → Code.wp Try.prog (sq 14 body8) Q a w')) (ha : At 114 [(0, .int .u64 (b : Int)), (1, .int .u32 (c : Int)), (7, .int .i64 m), (8, .int .i64 x), (14, .pointer (some ⟨g, 0, none⟩)), (15, .float .f64 W), (16, .int .u64 (UV : Int))] a) : Code.wp Try.prog (sq 13 body8) Q a w := by
  obtain ⟨f, rfl, h0, h1, h7, h8, h14, h15, h16, -⟩ := ha.lit
  change Code.wp _ _ _ ⟨#[f 0, f 1, f 2, f 3, f 4, f 5, f 6, f 7, f 8, f 9, f 10, f 11, f 12, f 13, f 14, f 15, f 16, f 17, f 18, f 19, f 20, f 21, f 22, f 23, f 24, f 25, f 26, f 27, f 28, f 29, f 30, f 31, f 32, f 33, f 34, f 35, f 36, f 37, f 38, f 39, f 40, f 41, f 42, f 43, f 44, f 45, f 46, f 47, f 48, f 49, f 50, f 51, f 52, f 53, f 54, f 55, f 56, f 57, f 58, f 59, f 60, f 61, f 62, f 63, f 64, f 65, f 66, f 67, f 68, f 69, f 70, f 71, f 72, f 73, f 74, f 75, f 76, f 77, f 78, f 79, f 80, f 81, f 82, f 83, f 84, f 85, f 86, f 87, f 88, f 89, f 90, f 91, f 92, f 93, f 94, f 95, f 96, f 97, f 98, f 99, f 100, f 101, f 102, f 103, f 104, f 105, f 106, f 107, f 108, f 109, f 110, f 111, f 112, f 113], []⟩ _
  simp only at h0 h1 h7 h8 h14 h15 h16
  simp only [h0, h1, h7, h8, h14, h15, h16]
  clear h0 h1 h7 h8 h14 h15 h16
  change Code.wp _ (Code.seq (hd (sq 13 body8)) (sq 14 body8)) _ _ _
  generalize sq 14 body8 = REST at hK ⊢
  conv => arg 2; arg 1; whnf
  obtain ⟨m0, m1, m2, m3, m4, m5⟩ := cells6 r.out
  go_wp2
  clear m0 m1 m2 m3 m4 m5
  refine wp_region_vals (a1 := ?a1r23n4) (grown _) [.pointer (some ⟨g, 1, none⟩), .bool ng, .pointer (some ⟨g, 2, none⟩), .int .u64 (M : Int), .pointer (some ⟨g, 3, none⟩), .int .i64 X, .agg #[.int .i64 52, .int .i64 2047, .int .i64 1023], .int .u64 (WV : Int), .int .u64 (WV : Int)] 114 rfl (by kernel_rfl) (by kernel_rfl) (grown_start _) ⟨?o0r23n4, ?o1r23n4, ?o2r23n4, ?o3r23n4, ?o4r23n4, ?o5r23n4, ?o6r23n4, ?o7r23n4, ?o8r23n4, trivial⟩ ?har23n4 ?hdoner23n4
  case har23n4 => simp [putAll, Act.put]; exact rfl
  case o0r23n4 => exact ValOp.pure (grown_steady _ 0) [(14, .pointer (some ⟨g, 0, none⟩))] rfl (fun _ _ h2 => ⟨(h2 14 (by kernel_rfl)).trans rfl, trivial⟩) (by kernel_rfl) (fun _ _ _ _ _ => by kernel_rfl)
  case o1r23n4 => exact ValOp.pure (grown_steady _ 1) [(91, .pointer (some ⟨g, 1, none⟩))] rfl (fun _ h1 _ => ⟨h1 0 91 (by kernel_rfl), trivial⟩) (by kernel_rfl) (fun _ _ _ hg _ => run_read rfl rfl (run_cell (below_at r.out hg) rfl (Try.isAgg4 _)))
  case o2r23n4 => exact ValOp.pure (grown_steady _ 2) [(14, .pointer (some ⟨g, 0, none⟩))] rfl (fun _ _ h2 => ⟨(h2 14 (by kernel_rfl)).trans rfl, trivial⟩) (by kernel_rfl) (fun _ _ _ _ _ => by kernel_rfl)
  case o3r23n4 => exact ValOp.pure (grown_steady _ 3) [(93, .pointer (some ⟨g, 2, none⟩))] rfl (fun _ h1 _ => ⟨h1 2 93 (by kernel_rfl), trivial⟩) (by kernel_rfl) (fun _ _ _ hg _ => run_read rfl rfl (run_cell (below_at r.out hg) rfl (Try.isAgg22 _)))
  case o4r23n4 => exact ValOp.pure (grown_steady _ 4) [(14, .pointer (some ⟨g, 0, none⟩))] rfl (fun _ _ h2 => ⟨(h2 14 (by kernel_rfl)).trans rfl, trivial⟩) (by kernel_rfl) (fun _ _ _ _ _ => by kernel_rfl)
  case o5r23n4 => exact ValOp.pure (grown_steady _ 5) [(95, .pointer (some ⟨g, 3, none⟩))] rfl (fun _ h1 _ => ⟨h1 4 95 (by kernel_rfl), trivial⟩) (by kernel_rfl) (fun _ _ _ hg _ => run_read rfl rfl (run_cell (below_at r.out hg) rfl (Try.isAgg3 _)))
  case o6r23n4 => exact ValOp.call (grown_steady _ 6) [] rfl (fun _ _ _ => trivial) (by kernel_rfl) 16 #[] (fun _ => by kernel_rfl) (fun _ w _ => k16 w)
  case o7r23n4 => exact ValOp.call (grown_steady _ 7) [(92, .bool ng), (94, .int .u64 (M : Int)), (96, .int .i64 X), (97, .agg #[.int .i64 52, .int .i64 2047, .int .i64 1023])] rfl (fun _ h1 _ => ⟨h1 1 92 (by kernel_rfl), h1 3 94 (by kernel_rfl), h1 5 96 (by kernel_rfl), h1 6 97 (by kernel_rfl), trivial⟩) (by kernel_rfl) 37 #[.bool ng, .int .u64 (M : Int), .int .i64 X, .bool false, .agg #[.int .i64 52, .int .i64 2047, .int .i64 1023]] (fun _ => by kernel_rfl) (fun _ w _ => k37 w)
  case o8r23n4 => exact ValOp.pure (grown_steady _ 8) [(98, .int .u64 (WV : Int))] rfl (fun _ h1 _ => ⟨h1 7 98 (by kernel_rfl), trivial⟩) (by kernel_rfl) (fun _ _ _ _ _ => by kernel_rfl)
  intro w1 s1 _ bb
  have B1 : Hid (Below w.heap.size w w1) := bb
  clear bb
  go_wp2
  exact hK.out _ _ B1.out ⟨rfl, rfl, rfl, rfl, rfl, rfl, rfl, rfl, trivial⟩
set_option maxRecDepth 100000 in
set_option maxHeartbeats 2000000 in
theorem l8_i (b c W : Nat) (m x : Int) (a : Act) (w0 w : World) (B : Hid (Below w0.heap.size w0 w))
    (k24 : ∀ w, Calls Try.prog 24 #[.float .f64 W, .int .u64 (W : Int)] w fun e w' => e = .returned (.bool true) ∧ Below w.heap.size w w')
    (k36 : ∀ w, Calls Try.prog 36 #[.float .f64 W] w fun e w' => e = .returned (.float .f32 c) ∧ Below w.heap.size w w') (k40 : ∀ w, Calls Try.prog 40 #[.int .i64 m, .int .i64 x] w fun e w' => e = .returned (.bool true) ∧ Below w.heap.size w w')
    (ha : At 114 [(0, .int .u64 (b : Int)), (1, .int .u32 (c : Int)), (7, .int .i64 m), (8, .int .i64 x), (15, .float .f64 W), (16, .int .u64 (W : Int))] a) : Code.wp Try.prog (sq 14 body8) (bodyPost Try.prog Try.f8 fun r w' => r = .returned (.bool true) ∧ Below w0.heap.size w0 w') a w := by
  have x21 := ext21
  obtain ⟨f, rfl, h0, h1, h7, h8, h15, h16, -⟩ := ha.lit
  change Code.wp _ _ _ ⟨#[f 0, f 1, f 2, f 3, f 4, f 5, f 6, f 7, f 8, f 9, f 10, f 11, f 12, f 13, f 14, f 15, f 16, f 17, f 18, f 19, f 20, f 21, f 22, f 23, f 24, f 25, f 26, f 27, f 28, f 29, f 30, f 31, f 32, f 33, f 34, f 35, f 36, f 37, f 38, f 39, f 40, f 41, f 42, f 43, f 44, f 45, f 46, f 47, f 48, f 49, f 50, f 51, f 52, f 53, f 54, f 55, f 56, f 57, f 58, f 59, f 60, f 61, f 62, f 63, f 64, f 65, f 66, f 67, f 68, f 69, f 70, f 71, f 72, f 73, f 74, f 75, f 76, f 77, f 78, f 79, f 80, f 81, f 82, f 83, f 84, f 85, f 86, f 87, f 88, f 89, f 90, f 91, f 92, f 93, f 94, f 95, f 96, f 97, f 98, f 99, f 100, f 101, f 102, f 103, f 104, f 105, f 106, f 107, f 108, f 109, f 110, f 111, f 112, f 113], []⟩ _
  simp only at h0 h1 h7 h8 h15 h16
  simp only [h0, h1, h7, h8, h15, h16]
  clear h0 h1 h7 h8 h15 h16
  conv => arg 2; whnf
  go_wp2_with (go_at_call 24; refine (k24 _).mono ?_)
  intro e1 w1 hq
  first | (obtain ⟨rfl, b1⟩ : _ ∧ _ := hq) | (subst hq; intro b1)
  go_wp2_with (go_at_call 36; refine (k36 _).mono ?_)
  intro e2 w2 hq
  first | (obtain ⟨rfl, b2⟩ : _ ∧ _ := hq) | (subst hq; intro b2)
  go_wp2_with (go_at_call 40; refine (k40 _).mono ?_)
  intro e3 w3 hq
  first | (obtain ⟨rfl, b3⟩ : _ ∧ _ := hq) | (subst hq; intro b3)
  have B1 : Hid (Below w0.heap.size w0 w3) := B.out.trans (((b1.trans (b2.mono b1.size)).trans (b3.mono (Nat.le_trans b1.size b2.size))).mono B.out.size)
  clear b1 b2 b3
  go_wp2
  go_ret
  exact ⟨by simp, B1.out⟩
theorem pt_inf {p k : Nat} {bi : Int} {b : Nat} (h : (pt p k bi b).kind = 3) : pt p k bi b = ⟨3, (pt p k bi b).neg, 0, 0, false, 0⟩ := by
  revert h
  unfold pt
  repeat' split
  all_goals (dsimp only; intro h; first | rfl | (exact absurd h (by decide)))
theorem pt_zero {p k : Nat} {bi : Int} (L : Lay p k bi) {b : Nat} (h3 : ¬ (pt p k bi b).kind = 3) (h4 : ¬ (pt p k bi b).kind = 4) (h : (pt p k bi b).mant = 0) : 1 - bi - p ≤ (pt p k bi b).exp := by
  have hbi := L.bi0
  have hp1 := L.p1
  have hpp := L.pp
  revert h h3 h4
  unfold pt
  repeat' split
  all_goals (dsimp only; intro h3 h4 h; omega)
theorem lt32 (x : Pt) (hm : x.mant < 18446744073709551616) : rndB 23 8 127 x < 4294967296 := rndB_lt lay32 x hm
theorem lt64 (x : Pt) (hm : x.mant < 18446744073709551616) : rndB 52 11 1023 x < 18446744073709551616 := rndB_lt lay64 x hm
set_option maxHeartbeats 1000000 in
theorem law_r2 (b c : Nat) (m x : Int) (hc : c < 4294967296) (hm1 : -9223372036854775808 ≤ m) (hm2 : m ≤ 9223372036854775807) (a : Act) (w0 w : World) (B : Below w0.heap.size w0 w) (ha : At 114 [(0, .int .u64 (b : Int)), (1, .int .u32 (c : Int)), (7, .int .i64 m), (8, .int .i64 x)] a) :
    Code.wp Try.prog (sq 8 body8) (bodyPost Try.prog Try.f8 fun r w' => r = .returned (.bool true) ∧ Below w0.heap.size w0 w') a w := by
  have k40 := fun w => lnear_any m x w hm1 hm2
  have k39 := fun w => widen_any c w hc
  have k15 := fun w => rparts_any lay32 c w (by omega)
  have sm := pt_small lay32 c
  have pe := pt_exp lay32 c
  have hlt := lt64 _ sm.1
  have k36 := fun w => narrow_any (rndB 52 11 1023 (pt 23 8 127 c)) w hlt
  have hback := there_back lay32 (by decide) (by decide) c hc
  have kof := fun w => rof_any lay64 _ sm.1 sm.2 w
  have krr := fun hz w => rrounded_all lay64 (pt 23 8 127 c).neg _ _ w hz sm.1 pe.1 pe.2
  have hz := fun h3 h4 => pt_zero lay32 (b := c) h3 h4
  have hinf := pt_inf (p := 23) (k := 8) (bi := 127) (b := c)
  rw [rofV_is] at kof
  generalize hW : rndB 52 11 1023 (pt 23 8 127 c) = W at *
  generalize hx : pt 23 8 127 c = y at *
  obtain ⟨kd, ng, M, X, qu, LD⟩ := y
  unfold Pt.val at k15 kof
  dsimp only at *
  refine l8_e b c W m x kd X ng qu M LD a w (u64_small c (by omega)) size32_any k15 k39 (fun a w1 g B1 r1 ha => ?_) ha
  have B1 : Below w0.heap.size w0 w1 := B.trans (B1.mono B.size)
  by_cases h4 : kd = 4
  · have hWn : nan64 W = true := by
      rw [← hW, h4]
      show nan64 ((2 ^ 11 - 1) * 2 ^ 52 + 2 ^ (52 - 1)) = true
      rw [nan64_is (by decide)]
      decide
    exact l8_f4 b c W g m x kd X ng qu M LD 0 a w1 w0 B1 r1 h4 (by rw [nan_order]; exact hWn) k40 ha
  have h4b : (kd == 4) = false := beq_eq_false_iff_ne.2 h4
  refine l8_fN b c W g m x kd X ng qu M LD 0 a w1 r1 h4b (fun a w2 B2 ha => ?_) ha
  have r2 := below_at r1 B2
  have B2 : Below w0.heap.size w0 w2 := B1.trans (B2.mono B1.size)
  refine l8_g b c W g m x kd X ng qu M LD _ a w2 _ r2 size64_any kof (fun a w3 B3 ha => ?_) ha
  have r3 := below_at r2 B3
  have B3 : Below w0.heap.size w0 w3 := B2.trans (B3.mono B2.size)
  have k36 := k36
  rw [(hback h4).2] at k36
  by_cases h3 : kd = 3
  · have e := hinf h3
    have hu : (ofB 52 11 1023 ⟨kd, ng, M, X, qu, LD⟩).getD 0 = W := by
      rw [← hW, e]
      cases ng <;> decide +kernel
    refine l8_h3 b c W g m x kd X ng qu M LD _ a w3 r3 h3 (fun a w4 B4 ha => ?_) ha
    rw [hu] at ha
    exact l8_i b c W m x a w0 w4 (B3.trans (B4.mono B3.size)) (fun w => is_same W hlt w) k36 k40 ha
  · have hv : (if ng = true then 2 ^ (52 + 11) else 0) + nearB 52 11 1023 M X = W := by
      rw [← hW]
      unfold rndB
      dsimp only
      rw [if_neg h4, if_neg h3]
    have k37 := krr (fun h => by have := hz h3 h4 h; omega)
    rw [hv] at k37
    refine l8_hN b c W g m x kd X ng qu M LD _ a w3 W r3 (beq_eq_false_iff_ne.2 h3) size64_any k37 (fun a w4 B4 ha => ?_) ha
    exact l8_i b c W m x a w0 w4 (B3.trans (B4.mono B3.size)) (fun w => is_same W hlt w) k36 k40 ha
set_option maxHeartbeats 1000000 in
theorem law_r (b c : Nat) (m x : Int) (w : World) (hb : b < 18446744073709551616) (hc : c < 4294967296) (hm1 : -9223372036854775808 ≤ m) (hm2 : m ≤ 9223372036854775807) :
    Calls Try.prog 8 #[.int .u64 (b : Int), .int .u32 (c : Int), .agg #[.int .i64 m, .int .i64 x]] w fun e w' => e = .returned (.bool true) ∧ Below w.heap.size w w' := by
  refine l8_a b c m x w fun a w1 B1 ha => ?_
  have k15 := fun w => rparts_any lay64 b w hb
  have sm := pt_small lay64 b
  have pe := pt_exp lay64 b
  have k36 := fun w => narrow_any b w hb
  have hlt := lt32 _ sm.1
  have kof := fun w => rof_any lay32 _ sm.1 sm.2 w
  have krr := fun hz w => rrounded_all lay32 (pt 52 11 1023 b).neg _ _ w hz sm.1 pe.1 pe.2
  have hz := fun h3 h4 => pt_zero lay64 (b := b) h3 h4
  have hinf := pt_inf (p := 52) (k := 11) (bi := 1023) (b := b)
  have hlow : (pt 52 11 1023 b).mant = 0 → ¬ (pt 52 11 1023 b).kind = 3 → ¬ (pt 52 11 1023 b).kind = 4 → (pt 52 11 1023 b).exp = 0 := by
    have e1 : (2 : Nat) ^ 52 = 4503599627370496 := by decide
    unfold pt
    repeat' split
    all_goals (dsimp only; intro h h3 h4; omega)
  rw [rofV_is] at kof
  generalize hV : rndB 23 8 127 (pt 52 11 1023 b) = V at *
  generalize hx : pt 52 11 1023 b = y at *
  obtain ⟨kd, ng, M, X, qu, LD⟩ := y
  unfold Pt.val at k15 kof
  dsimp only at *
  refine l8_b b c V m x kd X ng qu M LD a w1 k15 k36 (fun a w2 g B2 r2 ha => ?_) ha
  have B2 : Below w.heap.size w w2 := B1.trans (B2.mono B1.size)
  have fin : ∀ a w3, Below w.heap.size w w3 → At 114 [(0, .int .u64 (b : Int)), (1, .int .u32 (c : Int)), (7, .int .i64 m), (8, .int .i64 x)] a → Code.wp Try.prog (sq 8 body8) (bodyPost Try.prog Try.f8 fun r w' => r = .returned (.bool true) ∧ Below w.heap.size w w') a w3 := fun a w3 B3 ha => law_r2 b c m x hc hm1 hm2 a w w3 B3 ha
  by_cases h4 : kd = 4
  · have hVn : nan32 V = true := by
      rw [← hV, h4]
      show nan32 ((2 ^ 8 - 1) * 2 ^ 23 + 2 ^ (23 - 1)) = true
      rw [nan32_is]
      decide
    have hV2 : (FloatKind.f32.format.order V V == some .eq) = false := by
      have := nan_order32 V
      rw [hVn] at this
      simpa using this
    refine l8_c4 b c V g m x kd X ng qu M LD 0 a w2 r2 h4 hV2 (fun a w3 B3 ha => ?_) ha
    have r3 := below_at r2 B3
    have B3 : Below w.heap.size w w3 := B2.trans (B3.mono B2.size)
    exact l8_d4 b c V g m x kd X ng qu M LD 0 a w3 r3 h4 (fun a w4 B4 ha => fin a w4 (B3.trans (B4.mono B3.size)) ha) ha
  have h4b : (kd == 4) = false := beq_eq_false_iff_ne.2 h4
  have go : ∀ a w3, Below w2.heap.size w2 w3 → At 114 [(0, .int .u64 (b : Int)), (1, .int .u32 (c : Int)), (7, .int .i64 m), (8, .int .i64 x), (10, .pointer (some ⟨g, 0, none⟩)), (11, .float .f32 V), (12, .int .u64 (V : Int))] a → Code.wp Try.prog (sq 7 body8) (bodyPost Try.prog Try.f8 fun r w' => r = .returned (.bool true) ∧ Below w.heap.size w w') a w3 := fun a w3 B3 ha => by
    have r3 := below_at r2 B3
    have B3 : Below w.heap.size w w3 := B2.trans (B3.mono B2.size)
    exact l8_dN b c V g m x kd X ng qu M LD V a w3 r3 h4b h4 (fun w => is32_same V hlt w) (fun a w4 B4 ha => fin a w4 (B3.trans (B4.mono B3.size)) ha) ha
  by_cases h3 : kd = 3
  · have e := hinf h3
    have hu : (ofB 23 8 127 ⟨kd, ng, M, X, qu, LD⟩).getD 0 = V := by
      rw [← hV, e]
      cases ng <;> decide +kernel
    rw [hu] at kof
    exact l8_c3 b c V g m x kd X ng qu M LD V a w2 _ r2 h3 size32_any kof go ha
  · have hv : (if ng = true then 2 ^ (23 + 8) else 0) + nearB 23 8 127 M X = V := by
      rw [← hV]
      unfold rndB
      dsimp only
      rw [if_neg h4, if_neg h3]
    have k37 := krr (fun h => by rw [hlow h h3 h4]; decide)
    rw [hv] at k37
    exact l8_cN b c V g m x kd X ng qu M LD V a w2 r2 (beq_eq_false_iff_ne.2 h3) h4b size32_any k37 go ha
end Go.Proofs.Ytjcjecbffnadaaa
