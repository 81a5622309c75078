/-
  The contract of the document's Even. Condition: the float's bits fit.
-/
import Derived.Test.YtjcjecbffnadaabEv2
import Derived.Test.YtjcjecbffnadaabTd
import Derived.Deep.LoopGhost
namespace Go.Proofs.Ytjcjecbffnadaab
open Go.RowKit
noncomputable def body20 : Code := Try.f20.body.getD .skip
set_option maxRecDepth 100000 in
set_option maxHeartbeats 2000000 in
theorem re_a {Q : Ending → World → Prop} (b : Nat) (kd X : Int) (ng qu : Bool) (M LD : Nat) (w : World) (k11 : ∀ w, Calls Try.prog 11 #[.int .u64 (b : Int), .agg #[.int .i64 52, .int .i64 2047, .int .i64 1023]] w fun e w' => e = .returned (.agg #[.int .i64 kd, .bool ng, .int .u64 (M : Int), .int .i64 X, .bool qu, .int .u64 (LD : Int)]) ∧ Below w.heap.size w w')
    (hK : Hid (∀ a w' g, Below w.heap.size w w' → w'.heap[g]? = some (.cells #[.int .i64 kd, .bool ng, .int .u64 (M : Int), .int .i64 X, .bool qu, .int .u64 (LD : Int)] 27 (0, 0)) → At 58 [(0, .int .u64 (b : Int)), (3, .pointer (some ⟨g, 0, none⟩))] a → Code.wp Try.prog (sq 2 body20) (bodyPost Try.prog Try.f20 Q) a w')) :
    Calls Try.prog 20 #[.int .u64 (b : Int)] w Q := by
  have k12 := k16l
  unfold k16L at k12
  go_enter Try.func20, Try.ntmps20
  change Code.wp _ (Code.seq (hd (sq 0 body20)) (Code.seq (hd (sq 1 body20)) (sq 2 body20))) _ _ _
  generalize sq 2 body20 = REST at hK ⊢
  conv => arg 2; arg 1; whnf
  conv => arg 2; arg 2; arg 1; whnf
  go_wp2_with (go_at_call 12; refine (k12 _).mono ?_)
  intro e1 w1 hq
  first | (obtain ⟨rfl, b1⟩ : _ ∧ _ := hq) | (subst hq; intro b1)
  go_wp2_with (go_at_call 11; refine (k11 _).mono ?_)
  intro e2 w2 hq
  first | (obtain ⟨rfl, b2⟩ : _ ∧ _ := hq) | (subst hq; intro b2)
  have B0 : Below w.heap.size w w2 := b1.trans (b2.mono b1.size)
  have B1 : Hid (Below w.heap.size w (w2.alloc (.cells #[.int .i64 kd, .bool ng, .int .u64 (M : Int), .int .i64 X, .bool qu, .int .u64 (LD : Int)] 27))) := B0.alloc B0.size _
  have r1 : Hid ((w2.alloc (.cells #[.int .i64 kd, .bool ng, .int .u64 (M : Int), .int .i64 X, .bool qu, .int .u64 (LD : Int)] 27)).heap[w2.heap.size]? = some (.cells #[.int .i64 kd, .bool ng, .int .u64 (M : Int), .int .i64 X, .bool qu, .int .u64 (LD : Int)] 27 (0, 0))) := heap_alloc_last _ _
  clear b1 b2 B0
  go_wp2
  exact hK.out _ _ _ B1.out r1.out ⟨rfl, rfl, rfl, rfl, trivial⟩
set_option maxRecDepth 100000 in
set_option maxHeartbeats 2000000 in
theorem re_b4 (b g : Nat) (kd X : Int) (ng qu : Bool) (M LD : Nat) (a : Act) (w : World) (w0 : World) (B : Hid (Below w0.heap.size w0 w)) (r : Hid (w.heap[g]? = some (.cells #[.int .i64 kd, .bool ng, .int .u64 (M : Int), .int .i64 X, .bool qu, .int .u64 (LD : Int)] 27 (0, 0)))) (h : kd = 4) (ha : At 58 [(0, .int .u64 (b : Int)), (3, .pointer (some ⟨g, 0, none⟩))] a) : Code.wp Try.prog (sq 2 body20) (bodyPost Try.prog Try.f20 fun r w' => r = .returned (.int .u64 (b : Int)) ∧ Below w0.heap.size w0 w') a w := by
  subst h
  obtain ⟨f, rfl, h0, h3, -⟩ := ha.lit
  change Code.wp _ _ _ ⟨#[f 0, f 1, f 2, f 3, f 4, f 5, f 6, f 7, f 8, f 9, f 10, f 11, f 12, f 13, f 14, f 15, f 16, f 17, f 18, f 19, f 20, f 21, f 22, f 23, f 24, f 25, f 26, f 27, f 28, f 29, f 30, f 31, f 32, f 33, f 34, f 35, f 36, f 37, f 38, f 39, f 40, f 41, f 42, f 43, f 44, f 45, f 46, f 47, f 48, f 49, f 50, f 51, f 52, f 53, f 54, f 55, f 56, f 57], []⟩ _
  simp only at h0 h3
  simp only [h0, h3]
  clear h0 h3
  conv => arg 2; whnf
  obtain ⟨m0, m1, m2, m3, m4, m5⟩ := cells6 r.out
  go_wp2
  go_ret
  exact ⟨rfl, B.out⟩
set_option maxRecDepth 100000 in
set_option maxHeartbeats 2000000 in
theorem re_b3 (b g : Nat) (kd X : Int) (ng qu : Bool) (M LD : Nat) (a : Act) (w : World) (w0 : World) (B : Hid (Below w0.heap.size w0 w)) (r : Hid (w.heap[g]? = some (.cells #[.int .i64 kd, .bool ng, .int .u64 (M : Int), .int .i64 X, .bool qu, .int .u64 (LD : Int)] 27 (0, 0)))) (h : kd = 3) (ha : At 58 [(0, .int .u64 (b : Int)), (3, .pointer (some ⟨g, 0, none⟩))] a) : Code.wp Try.prog (sq 2 body20) (bodyPost Try.prog Try.f20 fun r w' => r = .returned (.int .u64 (b : Int)) ∧ Below w0.heap.size w0 w') a w := by
  subst h
  obtain ⟨f, rfl, h0, h3, -⟩ := ha.lit
  change Code.wp _ _ _ ⟨#[f 0, f 1, f 2, f 3, f 4, f 5, f 6, f 7, f 8, f 9, f 10, f 11, f 12, f 13, f 14, f 15, f 16, f 17, f 18, f 19, f 20, f 21, f 22, f 23, f 24, f 25, f 26, f 27, f 28, f 29, f 30, f 31, f 32, f 33, f 34, f 35, f 36, f 37, f 38, f 39, f 40, f 41, f 42, f 43, f 44, f 45, f 46, f 47, f 48, f 49, f 50, f 51, f 52, f 53, f 54, f 55, f 56, f 57], []⟩ _
  simp only at h0 h3
  simp only [h0, h3]
  clear h0 h3
  conv => arg 2; whnf
  obtain ⟨m0, m1, m2, m3, m4, m5⟩ := cells6 r.out
  go_wp2
  go_ret
  exact ⟨rfl, B.out⟩
set_option maxRecDepth 100000 in
set_option maxHeartbeats 2000000 in
theorem re_bs (b g : Nat) (kd X : Int) (ng qu : Bool) (M LD : Nat) (a : Act) (w : World) (w0 : World) (B : Hid (Below w0.heap.size w0 w)) (r : Hid (w.heap[g]? = some (.cells #[.int .i64 kd, .bool ng, .int .u64 (M : Int), .int .i64 X, .bool qu, .int .u64 (LD : Int)] 27 (0, 0)))) (h4 : (kd == 4) = false) (h3 : (kd == 3) = false) (h : 0 ≤ X) (ha : At 58 [(0, .int .u64 (b : Int)), (3, .pointer (some ⟨g, 0, none⟩))] a) : Code.wp Try.prog (sq 2 body20) (bodyPost Try.prog Try.f20 fun r w' => r = .returned (.int .u64 (b : Int)) ∧ Below w0.heap.size w0 w') a w := by
  obtain ⟨f, rfl, h0, h3, -⟩ := ha.lit
  change Code.wp _ _ _ ⟨#[f 0, f 1, f 2, f 3, f 4, f 5, f 6, f 7, f 8, f 9, f 10, f 11, f 12, f 13, f 14, f 15, f 16, f 17, f 18, f 19, f 20, f 21, f 22, f 23, f 24, f 25, f 26, f 27, f 28, f 29, f 30, f 31, f 32, f 33, f 34, f 35, f 36, f 37, f 38, f 39, f 40, f 41, f 42, f 43, f 44, f 45, f 46, f 47, f 48, f 49, f 50, f 51, f 52, f 53, f 54, f 55, f 56, f 57], []⟩ _
  simp only at h0 h3
  simp only [h0, h3]
  clear h0 h3
  conv => arg 2; whnf
  obtain ⟨m0, m1, m2, m3, m4, m5⟩ := cells6 r.out
  go_wp2
  go_ret
  exact ⟨rfl, B.out⟩
set_option maxRecDepth 100000 in
set_option maxHeartbeats 2000000 in
theorem re_c {Q : Exit → Act → World → Prop} (b g : Nat) (kd X : Int) (ng qu : Bool) (M LD : Nat) (a : Act) (w : World) (r : Hid (w.heap[g]? = some (.cells #[.int .i64 kd, .bool ng, .int .u64 (M : Int), .int .i64 X, .bool qu, .int .u64 (LD : Int)] 27 (0, 0)))) (h4 : (kd == 4) = false) (h3 : (kd == 3) = false) (h : X < 0) (hK : Hid (∀ a w', Below w.heap.size w w' → At 58 [(3, .pointer (some ⟨g, 0, none⟩)), (4, .int .u64 (M : Int)), (5, .bool false), (6, .bool false)] a → Code.wp Try.prog (sq 4 body20) Q a w')) (ha : At 58 [(0, .int .u64 (b : Int)), (3, .pointer (some ⟨g, 0, none⟩))] a) : Code.wp Try.prog (sq 2 body20) Q a w := by
  obtain ⟨f, rfl, h0, h3, -⟩ := ha.lit
  change Code.wp _ _ _ ⟨#[f 0, f 1, f 2, f 3, f 4, f 5, f 6, f 7, f 8, f 9, f 10, f 11, f 12, f 13, f 14, f 15, f 16, f 17, f 18, f 19, f 20, f 21, f 22, f 23, f 24, f 25, f 26, f 27, f 28, f 29, f 30, f 31, f 32, f 33, f 34, f 35, f 36, f 37, f 38, f 39, f 40, f 41, f 42, f 43, f 44, f 45, f 46, f 47, f 48, f 49, f 50, f 51, f 52, f 53, f 54, f 55, f 56, f 57], []⟩ _
  simp only at h0 h3
  simp only [h0, h3]
  clear h0 h3
  change Code.wp _ (Code.seq (hd (sq 2 body20)) (Code.seq (hd (sq 3 body20)) (sq 4 body20))) _ _ _
  generalize sq 4 body20 = REST at hK ⊢
  conv => arg 2; arg 1; whnf
  conv => arg 2; arg 2; arg 1; whnf
  obtain ⟨m0, m1, m2, m3, m4, m5⟩ := cells6 r.out
  go_wp2
  exact hK.out _ _ (Below.refl _ _) ⟨rfl, rfl, rfl, rfl, rfl, rfl, trivial⟩
set_option maxRecDepth 100000 in
set_option maxHeartbeats 2000000 in
theorem re_d {Q : Exit → Act → World → Prop} (_b g : Nat) (kd X : Int) (ng qu : Bool) (M LD : Nat) (a : Act) (w : World) (r : Hid (w.heap[g]? = some (.cells #[.int .i64 kd, .bool ng, .int .u64 (M : Int), .int .i64 X, .bool qu, .int .u64 (LD : Int)] 27 (0, 0)))) (J : Nat) (hX : X + J = 0) (hJ0 : (J : Int) ≤ 20000) (hM : M < 18446744073709551616) (hK : Hid (∀ a w', Below w.heap.size w w' → At 58 [(3, .pointer (some ⟨g, 0, none⟩)), (4, .int .u64 ((M / 2 ^ J : Nat) : Int)), (5, .bool (hfN M J)), (6, .bool (skN M J))] a → Code.wp Try.prog (sq 5 body20) Q a w')) (ha : At 58 [(3, .pointer (some ⟨g, 0, none⟩)), (4, .int .u64 (M : Int)), (5, .bool false), (6, .bool false)] a) : Code.wp Try.prog (sq 4 body20) Q a w := by
  obtain ⟨f, rfl, h3, h4, h5, h6, -⟩ := ha.lit
  change Code.wp _ _ _ ⟨#[f 0, f 1, f 2, f 3, f 4, f 5, f 6, f 7, f 8, f 9, f 10, f 11, f 12, f 13, f 14, f 15, f 16, f 17, f 18, f 19, f 20, f 21, f 22, f 23, f 24, f 25, f 26, f 27, f 28, f 29, f 30, f 31, f 32, f 33, f 34, f 35, f 36, f 37, f 38, f 39, f 40, f 41, f 42, f 43, f 44, f 45, f 46, f 47, f 48, f 49, f 50, f 51, f 52, f 53, f 54, f 55, f 56, f 57], []⟩ _
  simp only at h3 h4 h5 h6
  simp only [h3, h4, h5, h6]
  clear h3 h4 h5 h6
  change Code.wp _ (Code.seq (hd (sq 4 body20)) (sq 5 body20)) _ _ _
  generalize sq 5 body20 = REST at hK ⊢
  conv => arg 2; arg 1; whnf
  obtain ⟨m0, m1, m2, m3, m4, m5⟩ := cells6 r.out
  go_wp2
  refine wp_loop_ghost_k (fun m a w' => ∃ j : Nat, j ≤ J ∧ m = J - j ∧ At 58 [(3, .pointer (some ⟨g, 0, none⟩)), (4, .int .u64 ((M / 2 ^ j : Nat) : Int)), (5, .bool (hfN M j)), (6, .bool (skN M j)), (7, .int .i64 (X + j))] a ∧ w' = w) J ⟨0, Nat.zero_le _, rfl, by rw [show X + ((0 : Nat) : Int) = X by omega, Nat.pow_zero, Nat.div_one]; exact ⟨rfl, rfl, rfl, rfl, rfl, rfl, rfl, trivial⟩, rfl⟩ ?_
  rintro m a w' ⟨j, hj, rfl, ha, rfl⟩ J0 K1 hJ hK1
  have hal : M / 2 ^ j < 18446744073709551616 := Nat.lt_of_le_of_lt (Nat.div_le_self _ _) hM
  have hyb : -40000 ≤ X + (j : Int) ∧ X + (j : Int) ≤ 0 := by omega
  obtain ⟨hy1, hy2⟩ := hyb
  by_cases c : j < J
  · have hnew : M / 2 ^ (j + 1) = M / 2 ^ j / 2 := by rw [Nat.pow_succ, Nat.div_div_eq_div_mul]
    have hs1 : Hid (skN M (j + 1) = (skN M j || hfN M j)) := rfl
    have hh1 : Hid (hfN M (j + 1) = (M / 2 ^ j % 2 == 1)) := rfl
    have hbit := bitE _ hal
    have hdiv : ((M / 2 ^ j : Nat) : Int).tdiv 2 = ((M / 2 ^ (j + 1) : Nat) : Int) := by
      rw [Int.tdiv_eq_ediv_of_nonneg (Int.natCast_nonneg _), hnew, Int.natCast_ediv]; rfl
    have hwa := u64_small (M / 2 ^ (j + 1)) (by have := Nat.div_le_self M (2 ^ (j + 1)); omega)
    have hyl : X + (j : Int) < 0 := by omega
    generalize ha' : M / 2 ^ (j + 1) = a' at *
    generalize M / 2 ^ j = b0 at *
    generalize skN M j = s at *
    generalize hfN M j = f0 at *
    generalize (b0 % 2 == 1) = f' at *
    have ha' := show Hid _ from ha'
    generalize hy : X + (j : Int) = y at *
    have hy := show Hid _ from hy
    have hc := show Hid _ from c
    have hJ := show Hid _ from hJ
    clear hnew hK hj c hJ0 hM hal hX m0 m1 m2 m3 m4 m5
    obtain ⟨f, rfl, h3, h4, h5, h6, h7, -⟩ := ha.lit
    change Code.wp _ _ _ ⟨#[f 0, f 1, f 2, f 3, f 4, f 5, f 6, f 7, f 8, f 9, f 10, f 11, f 12, f 13, f 14, f 15, f 16, f 17, f 18, f 19, f 20, f 21, f 22, f 23, f 24, f 25, f 26, f 27, f 28, f 29, f 30, f 31, f 32, f 33, f 34, f 35, f 36, f 37, f 38, f 39, f 40, f 41, f 42, f 43, f 44, f 45, f 46, f 47, f 48, f 49, f 50, f 51, f 52, f 53, f 54, f 55, f 56, f 57], []⟩ _
    simp only at h3 h4 h5 h6 h7
    simp only [h3, h4, h5, h6, h7]
    clear h3 h4 h5 h6 h7
    cases s
    · go_wp2
      exact Handed.intro (J - (j + 1)) (by have := hc.out; omega) (hJ.out _ _ _ ⟨j + 1, hc.out, rfl, by rw [ha'.out, hs1.out, hh1.out, show X + ((j + 1 : Nat) : Int) = y + 1 by have := hy.out; omega]; exact ⟨rfl, rfl, rfl, rfl, rfl, rfl, rfl, trivial⟩, rfl⟩)
    · go_wp2
      exact Handed.intro (J - (j + 1)) (by have := hc.out; omega) (hJ.out _ _ _ ⟨j + 1, hc.out, rfl, by rw [ha'.out, hs1.out, hh1.out, show X + ((j + 1 : Nat) : Int) = y + 1 by have := hy.out; omega]; exact ⟨rfl, rfl, rfl, rfl, rfl, rfl, rfl, trivial⟩, rfl⟩)
  · have hjJ : j = J := by omega
    subst hjJ
    have hyl : X + (j : Int) = 0 := hX
    clear c hj hJ hK1 hM hJ0 hal hy1 hy2 m0 m1 m2 m3 m4 m5 hX
    generalize M / 2 ^ j = b0 at *
    generalize skN M j = s at *
    generalize hfN M j = f0 at *
    rw [hyl] at ha
    obtain ⟨f, rfl, h3, h4, h5, h6, h7, -⟩ := ha.lit
    change Code.wp _ _ _ ⟨#[f 0, f 1, f 2, f 3, f 4, f 5, f 6, f 7, f 8, f 9, f 10, f 11, f 12, f 13, f 14, f 15, f 16, f 17, f 18, f 19, f 20, f 21, f 22, f 23, f 24, f 25, f 26, f 27, f 28, f 29, f 30, f 31, f 32, f 33, f 34, f 35, f 36, f 37, f 38, f 39, f 40, f 41, f 42, f 43, f 44, f 45, f 46, f 47, f 48, f 49, f 50, f 51, f 52, f 53, f 54, f 55, f 56, f 57], []⟩ _
    simp only at h3 h4 h5 h6 h7
    simp only [h3, h4, h5, h6, h7]
    clear h3 h4 h5 h6 h7
    go_wp2
    exact hK.out _ _ (Below.refl _ _) ⟨rfl, rfl, rfl, rfl, rfl, rfl, trivial⟩
set_option maxRecDepth 100000 in
set_option maxHeartbeats 2000000 in
theorem re_eF0 {Q : Exit → Act → World → Prop} (g n : Nat) (a : Act) (w : World) (s : Bool) (hK : Hid (∀ a w', Below w.heap.size w w' → At 58 [(3, .pointer (some ⟨g, 0, none⟩)), (4, .int .u64 (n : Int))] a → Code.wp Try.prog (sq 6 body20) Q a w')) (ha : At 58 [(3, .pointer (some ⟨g, 0, none⟩)), (4, .int .u64 (n : Int)), (5, .bool false), (6, .bool s)] a) : Code.wp Try.prog (sq 5 body20) Q a w := by
  obtain ⟨f, rfl, h3, h4, h5, h6, -⟩ := ha.lit
  change Code.wp _ _ _ ⟨#[f 0, f 1, f 2, f 3, f 4, f 5, f 6, f 7, f 8, f 9, f 10, f 11, f 12, f 13, f 14, f 15, f 16, f 17, f 18, f 19, f 20, f 21, f 22, f 23, f 24, f 25, f 26, f 27, f 28, f 29, f 30, f 31, f 32, f 33, f 34, f 35, f 36, f 37, f 38, f 39, f 40, f 41, f 42, f 43, f 44, f 45, f 46, f 47, f 48, f 49, f 50, f 51, f 52, f 53, f 54, f 55, f 56, f 57], []⟩ _
  simp only at h3 h4 h5 h6
  simp only [h3, h4, h5, h6]
  clear h3 h4 h5 h6
  change Code.wp _ (Code.seq (hd (sq 5 body20)) (sq 6 body20)) _ _ _
  generalize sq 6 body20 = REST at hK ⊢
  conv => arg 2; arg 1; whnf
  go_wp2
  exact hK.out _ _ (Below.refl _ _) ⟨rfl, rfl, rfl, rfl, trivial⟩
set_option maxRecDepth 100000 in
set_option maxHeartbeats 2000000 in
theorem re_eT1 {Q : Exit → Act → World → Prop} (g n : Nat) (a : Act) (w : World) (hup : IntKind.u64.wrap ((n : Int) + 1) = (n : Int) + 1) (hK : Hid (∀ a w', Below w.heap.size w w' → At 58 [(3, .pointer (some ⟨g, 0, none⟩)), (4, .int .u64 ((n : Int) + 1))] a → Code.wp Try.prog (sq 6 body20) Q a w')) (ha : At 58 [(3, .pointer (some ⟨g, 0, none⟩)), (4, .int .u64 (n : Int)), (5, .bool true), (6, .bool true)] a) : Code.wp Try.prog (sq 5 body20) Q a w := by
  obtain ⟨f, rfl, h3, h4, h5, h6, -⟩ := ha.lit
  change Code.wp _ _ _ ⟨#[f 0, f 1, f 2, f 3, f 4, f 5, f 6, f 7, f 8, f 9, f 10, f 11, f 12, f 13, f 14, f 15, f 16, f 17, f 18, f 19, f 20, f 21, f 22, f 23, f 24, f 25, f 26, f 27, f 28, f 29, f 30, f 31, f 32, f 33, f 34, f 35, f 36, f 37, f 38, f 39, f 40, f 41, f 42, f 43, f 44, f 45, f 46, f 47, f 48, f 49, f 50, f 51, f 52, f 53, f 54, f 55, f 56, f 57], []⟩ _
  simp only at h3 h4 h5 h6
  simp only [h3, h4, h5, h6]
  clear h3 h4 h5 h6
  change Code.wp _ (Code.seq (hd (sq 5 body20)) (sq 6 body20)) _ _ _
  generalize sq 6 body20 = REST at hK ⊢
  conv => arg 2; arg 1; whnf
  go_wp2
  exact hK.out _ _ (Below.refl _ _) ⟨rfl, rfl, rfl, rfl, trivial⟩
set_option maxRecDepth 100000 in
set_option maxHeartbeats 2000000 in
theorem re_eTo {Q : Exit → Act → World → Prop} (g n : Nat) (a : Act) (w : World) (hup : IntKind.u64.wrap ((n : Int) + 1) = (n : Int) + 1) (hod : (bits .and .u64 (n : Int) 1 == 1) = true) (hK : Hid (∀ a w', Below w.heap.size w w' → At 58 [(3, .pointer (some ⟨g, 0, none⟩)), (4, .int .u64 ((n : Int) + 1))] a → Code.wp Try.prog (sq 6 body20) Q a w')) (ha : At 58 [(3, .pointer (some ⟨g, 0, none⟩)), (4, .int .u64 (n : Int)), (5, .bool true), (6, .bool false)] a) : Code.wp Try.prog (sq 5 body20) Q a w := by
  obtain ⟨f, rfl, h3, h4, h5, h6, -⟩ := ha.lit
  change Code.wp _ _ _ ⟨#[f 0, f 1, f 2, f 3, f 4, f 5, f 6, f 7, f 8, f 9, f 10, f 11, f 12, f 13, f 14, f 15, f 16, f 17, f 18, f 19, f 20, f 21, f 22, f 23, f 24, f 25, f 26, f 27, f 28, f 29, f 30, f 31, f 32, f 33, f 34, f 35, f 36, f 37, f 38, f 39, f 40, f 41, f 42, f 43, f 44, f 45, f 46, f 47, f 48, f 49, f 50, f 51, f 52, f 53, f 54, f 55, f 56, f 57], []⟩ _
  simp only at h3 h4 h5 h6
  simp only [h3, h4, h5, h6]
  clear h3 h4 h5 h6
  change Code.wp _ (Code.seq (hd (sq 5 body20)) (sq 6 body20)) _ _ _
  generalize sq 6 body20 = REST at hK ⊢
  conv => arg 2; arg 1; whnf
  go_wp2
  exact hK.out _ _ (Below.refl _ _) ⟨rfl, rfl, rfl, rfl, trivial⟩
set_option maxRecDepth 100000 in
set_option maxHeartbeats 2000000 in
theorem re_eTe {Q : Exit → Act → World → Prop} (g n : Nat) (a : Act) (w : World) (hod : (bits .and .u64 (n : Int) 1 == 1) = false) (hK : Hid (∀ a w', Below w.heap.size w w' → At 58 [(3, .pointer (some ⟨g, 0, none⟩)), (4, .int .u64 (n : Int))] a → Code.wp Try.prog (sq 6 body20) Q a w')) (ha : At 58 [(3, .pointer (some ⟨g, 0, none⟩)), (4, .int .u64 (n : Int)), (5, .bool true), (6, .bool false)] a) : Code.wp Try.prog (sq 5 body20) Q a w := by
  obtain ⟨f, rfl, h3, h4, h5, h6, -⟩ := ha.lit
  change Code.wp _ _ _ ⟨#[f 0, f 1, f 2, f 3, f 4, f 5, f 6, f 7, f 8, f 9, f 10, f 11, f 12, f 13, f 14, f 15, f 16, f 17, f 18, f 19, f 20, f 21, f 22, f 23, f 24, f 25, f 26, f 27, f 28, f 29, f 30, f 31, f 32, f 33, f 34, f 35, f 36, f 37, f 38, f 39, f 40, f 41, f 42, f 43, f 44, f 45, f 46, f 47, f 48, f 49, f 50, f 51, f 52, f 53, f 54, f 55, f 56, f 57], []⟩ _
  simp only at h3 h4 h5 h6
  simp only [h3, h4, h5, h6]
  clear h3 h4 h5 h6
  change Code.wp _ (Code.seq (hd (sq 5 body20)) (sq 6 body20)) _ _ _
  generalize sq 6 body20 = REST at hK ⊢
  conv => arg 2; arg 1; whnf
  go_wp2
  exact hK.out _ _ (Below.refl _ _) ⟨rfl, rfl, rfl, rfl, trivial⟩
set_option maxRecDepth 100000 in
set_option maxHeartbeats 2000000 in
theorem re_f (g n V : Nat) (kd X : Int) (ng qu : Bool) (M LD : Nat) (a : Act) (w0 w : World) (B : Hid (Below w0.heap.size w0 w)) (r : Hid (w.heap[g]? = some (.cells #[.int .i64 kd, .bool ng, .int .u64 (M : Int), .int .i64 X, .bool qu, .int .u64 (LD : Int)] 27 (0, 0)))) (k12 : ∀ w, Calls Try.prog 12 #[] w fun e w' => e = .returned (.agg #[.int .i64 52, .int .i64 2047, .int .i64 1023]) ∧ Below w.heap.size w w') (k15 : ∀ w, Calls Try.prog 15 #[.bool ng, .int .u64 (n : Int), .int .i64 0, .bool false, .agg #[.int .i64 52, .int .i64 2047, .int .i64 1023]] w fun e w' => e = .returned (.int .u64 (V : Int)) ∧ Below w.heap.size w w') (ha : At 58 [(3, .pointer (some ⟨g, 0, none⟩)), (4, .int .u64 (n : Int))] a) : Code.wp Try.prog (sq 6 body20) (bodyPost Try.prog Try.f20 fun r w' => r = .returned (.int .u64 (V : Int)) ∧ Below w0.heap.size w0 w') a w := by
  obtain ⟨f, rfl, h3, h4, -⟩ := ha.lit
  change Code.wp _ _ _ ⟨#[f 0, f 1, f 2, f 3, f 4, f 5, f 6, f 7, f 8, f 9, f 10, f 11, f 12, f 13, f 14, f 15, f 16, f 17, f 18, f 19, f 20, f 21, f 22, f 23, f 24, f 25, f 26, f 27, f 28, f 29, f 30, f 31, f 32, f 33, f 34, f 35, f 36, f 37, f 38, f 39, f 40, f 41, f 42, f 43, f 44, f 45, f 46, f 47, f 48, f 49, f 50, f 51, f 52, f 53, f 54, f 55, f 56, f 57], []⟩ _
  simp only at h3 h4
  simp only [h3, h4]
  clear h3 h4
  conv => arg 2; whnf
  go_wp2
  refine wp_region_vals (a1 := ?a1r13n1) (grown _) [.pointer (some ⟨g, 1, none⟩), .bool ng, .int .u64 (n : Int), .agg #[.int .i64 52, .int .i64 2047, .int .i64 1023], .int .u64 (V : Int), .int .u64 (V : Int)] 58 rfl (by kernel_rfl) (by kernel_rfl) (grown_start _) ⟨?o0r13n1, ?o1r13n1, ?o2r13n1, ?o3r13n1, ?o4r13n1, ?o5r13n1, trivial⟩ ?har13n1 ?hdoner13n1
  case har13n1 => simp [putAll, Act.put]; exact rfl
  case o0r13n1 => exact ValOp.pure (grown_steady _ 0) [(3, .pointer (some ⟨g, 0, none⟩))] rfl (fun _ _ h2 => ⟨(h2 3 (by kernel_rfl)).trans rfl, trivial⟩) (by kernel_rfl) (fun _ _ _ _ _ => by kernel_rfl)
  case o1r13n1 => exact ValOp.pure (grown_steady _ 1) [(53, .pointer (some ⟨g, 1, none⟩))] rfl (fun _ h1 _ => ⟨h1 0 53 (by kernel_rfl), trivial⟩) (by kernel_rfl) (fun _ _ _ hg _ => run_read rfl rfl (run_cell (below_at r.out hg) rfl (Try.isAgg4 _)))
  case o2r13n1 => exact ValOp.pure (grown_steady _ 2) [(4, .int .u64 (n : Int))] rfl (fun _ _ h2 => ⟨(h2 4 (by kernel_rfl)).trans rfl, trivial⟩) (by kernel_rfl) (fun _ _ _ _ _ => by kernel_rfl)
  case o3r13n1 => exact ValOp.call (grown_steady _ 3) [] rfl (fun _ _ _ => trivial) (by kernel_rfl) 12 #[] (fun _ => by kernel_rfl) (fun _ w _ => k12 w)
  case o4r13n1 => exact ValOp.call (grown_steady _ 4) [(54, .bool ng), (55, .int .u64 (n : Int)), (56, .agg #[.int .i64 52, .int .i64 2047, .int .i64 1023])] rfl (fun _ h1 _ => ⟨h1 1 54 (by kernel_rfl), h1 2 55 (by kernel_rfl), h1 3 56 (by kernel_rfl), trivial⟩) (by kernel_rfl) 15 #[.bool ng, .int .u64 (n : Int), .int .i64 0, .bool false, .agg #[.int .i64 52, .int .i64 2047, .int .i64 1023]] (fun _ => by kernel_rfl) (fun _ w _ => k15 w)
  case o5r13n1 => exact ValOp.pure (grown_steady _ 5) [(57, .int .u64 (V : Int))] rfl (fun _ h1 _ => ⟨h1 4 57 (by kernel_rfl), trivial⟩) (by kernel_rfl) (fun _ _ _ _ _ => by kernel_rfl)
  intro w1 s1 _ bb
  have B1 : Hid (Below w0.heap.size w0 w1) := B.out.trans ((show Below _ _ w1 from bb).mono B.out.size)
  clear bb
  go_wp2
  go_ret
  exact ⟨rfl, B1.out⟩
set_option maxHeartbeats 1000000 in
theorem reven_any (b : Nat) (w : World) (hb : b < 18446744073709551616) : Calls Try.prog 20 #[.int .u64 (b : Int)] w fun e w' => e = .returned (.int .u64 (evenB b : Nat)) ∧ Below w.heap.size w w' := by
  have k11 := fun w => rparts_any lay64 b w hb
  have sm := pt_small lay64 b
  have pe := pt_exp lay64 b
  have h34 : (pt 52 11 1023 b).kind = 3 ∨ (pt 52 11 1023 b).kind = 4 → 0 ≤ (pt 52 11 1023 b).exp := by
    unfold pt
    repeat' split
    all_goals (dsimp only; intro h; omega)
  unfold evenB rndB
  generalize pt 52 11 1023 b = y at *
  obtain ⟨kd, ng, M, X, qu, LD⟩ := y
  unfold Pt.val at k11
  dsimp only at *
  refine re_a b kd X ng qu M LD w k11 fun a w1 g B1 r1 ha => ?_
  by_cases h4 : kd = 4
  · rw [if_pos (h34 (.inr h4))]
    exact re_b4 b g kd X ng qu M LD a w1 w B1 r1 h4 ha
  by_cases h3 : kd = 3
  · rw [if_pos (h34 (.inl h3))]
    exact re_b3 b g kd X ng qu M LD a w1 w B1 r1 h3 ha
  have h4b : (kd == 4) = false := beq_eq_false_iff_ne.2 h4
  have h3b : (kd == 3) = false := beq_eq_false_iff_ne.2 h3
  by_cases c : 0 ≤ X
  · rw [if_pos c]
    exact re_bs b g kd X ng qu M LD a w1 w B1 r1 h4b h3b c ha
  rw [if_neg c, if_neg h4, if_neg h3]
  obtain ⟨s, hs⟩ : ∃ s : Nat, -X = ((s + 1 : Nat) : Int) := ⟨(-X - 1).toNat, by omega⟩
  rw [hs, Int.toNat_natCast]
  have hlt : rnd M (s + 1) < 18446744073709551616 := rnd_small s sm.1
  have k15 := fun w => rrounded_all lay64 ng (rnd M (s + 1)) 0 w (fun _ => by decide) hlt (by decide) (by decide)
  have hri := round_is M s
  refine re_c b g kd X ng qu M LD a w1 r1 h4b h3b (by omega) (fun a w2 B2 ha => ?_) ha
  have r2 := below_at r1 B2
  have B2 : Below w.heap.size w w2 := B1.trans (B2.mono B1.size)
  refine re_d b g kd X ng qu M LD a w2 r2 (s + 1) (by omega) (by omega) sm.1 (fun a w3 B3 ha => ?_) ha
  have r3 := below_at r2 B3
  have B3 : Below w.heap.size w w3 := B2.trans (B3.mono B2.size)
  have hq : M / 2 ^ (s + 1) < 18446744073709551615 := by
    have : M / 2 ^ (s + 1) ≤ M / 2 := by
      refine Nat.div_le_div_left ?_ (by omega)
      rw [Nat.pow_succ]
      have := Nat.two_pow_pos s
      omega
    omega
  have hbit := bitE (M / 2 ^ (s + 1)) (by omega)
  have hup1 : ∀ q : Nat, q < 18446744073709551615 → IntKind.u64.wrap ((q : Int) + 1) = (q : Int) + 1 := fun q hq => by rw [u64_wrap']; omega
  have hup := hup1 _ hq
  have fin : ∀ a w', Below w3.heap.size w3 w' → At 58 [(3, .pointer (some ⟨g, 0, none⟩)), (4, .int .u64 ((rnd M (s + 1) : Nat) : Int))] a → Code.wp Try.prog (sq 6 body20) (bodyPost Try.prog Try.f20 fun r w' => r = .returned (.int .u64 (((if ng = true then 2 ^ (52 + 11) else 0) + nearB 52 11 1023 (rnd M (s + 1)) 0 : Nat) : Int)) ∧ Below w.heap.size w w') a w' := fun a w4 B4 ha =>
    re_f g _ _ kd X ng qu M LD a w w4 (B3.trans (B4.mono B3.size)) (below_at r3 B4) size64_any k15 ha
  generalize rnd M (s + 1) = R at *
  generalize hfN M (s + 1) = h at *
  generalize skN M (s + 1) = t at *
  generalize M / 2 ^ (s + 1) = n at *
  cases h
  · have e : R = n := by rw [hri]; simp
    subst e
    exact re_eF0 g R a w3 t fin ha
  · cases t
    · rcases two_cases (Nat.mod_lt n (by omega : 2 > 0)) with par | par
      · have e : R = n := by rw [hri]; simp [par]
        subst e
        exact re_eTe g R a w3 (by rw [hbit, par]; rfl) fin ha
      · have e : R = n + 1 := by rw [hri]; simp [par]
        subst e
        exact re_eTo g n a w3 hup (by rw [hbit, par]; rfl) fin ha
    · have e : R = n + 1 := by rw [hri]; simp
      subst e
      exact re_eT1 g n a w3 hup fin ha
end Go.Proofs.Ytjcjecbffnadaab
