/-
  The contract of Trunc, the document's. Condition: the float's bits fit.
-/
import Derived.Test.YtjcjecbffnadaabMo
import Derived.Deep.LoopGhost
namespace Go.Proofs.Ytjcjecbffnadaab
open Go.RowKit
noncomputable def body28 : Code := Try.f28.body.getD .skip
set_option maxRecDepth 100000 in
set_option maxHeartbeats 2000000 in
theorem tr_a {Q : Ending → World → Prop} (b TP : Nat) (kd X : Int) (ng qu : Bool) (M LD : Nat) (w : World) (hT : bits .and .u64 (b : Int) 9223372036854775808 = (TP : Int)) (k11 : ∀ w, Calls Try.prog 11 #[.int .u64 (b : Int), .agg #[.int .i64 52, .int .i64 2047, .int .i64 1023]] w fun e w' => e = .returned (.agg #[.int .i64 kd, .bool ng, .int .u64 (M : Int), .int .i64 X, .bool qu, .int .u64 (LD : Int)]) ∧ Below w.heap.size w w')
    (hK : Hid (∀ a w' g, Below w.heap.size w w' → w'.heap[g]? = some (.cells #[.int .i64 kd, .bool ng, .int .u64 (M : Int), .int .i64 X, .bool qu, .int .u64 (LD : Int)] 27 (0, 0)) → At 74 [(0, .int .u64 (b : Int)), (4, .pointer (some ⟨g, 0, none⟩)), (5, .int .u64 (TP : Int))] a → Code.wp Try.prog (sq 3 body28) (bodyPost Try.prog Try.f28 Q) a w')) : Calls Try.prog 28 #[.int .u64 (b : Int)] w Q := by
  have k12 := k16l
  unfold k16L at k12
  go_enter Try.func28, Try.ntmps28
  change Code.wp _ (Code.seq (hd (sq 0 body28)) (Code.seq (hd (sq 1 body28)) (Code.seq (hd (sq 2 body28)) (sq 3 body28)))) _ _ _
  generalize sq 3 body28 = REST at hK ⊢
  conv => arg 2; arg 1; whnf
  conv => arg 2; arg 2; arg 1; whnf
  conv => arg 2; arg 2; arg 2; arg 1; whnf
  go_wp2_with (go_at_call 12; refine (k12 _).mono ?_)
  intro e1 w1 hq
  first | (obtain ⟨rfl, b1⟩ : _ ∧ _ := hq) | (subst hq; intro b1)
  go_wp2_with (go_at_call 11; refine (k11 _).mono ?_)
  intro e2 w2 hq
  first | (obtain ⟨rfl, b2⟩ : _ ∧ _ := hq) | (subst hq; intro b2)
  have B0 : Below w.heap.size w w2 := b1.trans (b2.mono b1.size)
  have B1 : Hid (Below w.heap.size w (w2.alloc (.cells #[.int .i64 kd, .bool ng, .int .u64 (M : Int), .int .i64 X, .bool qu, .int .u64 (LD : Int)] 27))) := B0.alloc B0.size _
  have r1 : Hid ((w2.alloc (.cells #[.int .i64 kd, .bool ng, .int .u64 (M : Int), .int .i64 X, .bool qu, .int .u64 (LD : Int)] 27)).heap[w2.heap.size]? = some (.cells #[.int .i64 kd, .bool ng, .int .u64 (M : Int), .int .i64 X, .bool qu, .int .u64 (LD : Int)] 27 (0, 0))) := heap_alloc_last _ _
  clear b1 b2 B0
  go_wp2
  exact hK.out _ _ _ B1.out r1.out ⟨rfl, rfl, rfl, rfl, rfl, trivial⟩
set_option maxRecDepth 100000 in
set_option maxHeartbeats 2000000 in
theorem tr_4 (b TP : Nat) (kd X : Int) (ng qu : Bool) (M LD : Nat) (g : Nat) (a : Act) (w0 w : World) (B : Hid (Below w0.heap.size w0 w)) (r : Hid (w.heap[g]? = some (.cells #[.int .i64 kd, .bool ng, .int .u64 (M : Int), .int .i64 X, .bool qu, .int .u64 (LD : Int)] 27 (0, 0)))) (h : kd = 4) (ha : At 74 [(0, .int .u64 (b : Int)), (4, .pointer (some ⟨g, 0, none⟩)), (5, .int .u64 (TP : Int))] a) : Code.wp Try.prog (sq 3 body28) (bodyPost Try.prog Try.f28 fun e w' => e = .returned (.tuple #[.int .u64 (b : Int), .int .u64 (b : Int)]) ∧ Below w0.heap.size w0 w') a w := by
  subst h
  obtain ⟨m0, m1, m2, m3, m4, m5⟩ := cells6 r.out
  obtain ⟨f, rfl, h0, h4, h5, -⟩ := ha.lit
  change Code.wp _ _ _ ⟨#[f 0, f 1, f 2, f 3, f 4, f 5, f 6, f 7, f 8, f 9, f 10, f 11, f 12, f 13, f 14, f 15, f 16, f 17, f 18, f 19, f 20, f 21, f 22, f 23, f 24, f 25, f 26, f 27, f 28, f 29, f 30, f 31, f 32, f 33, f 34, f 35, f 36, f 37, f 38, f 39, f 40, f 41, f 42, f 43, f 44, f 45, f 46, f 47, f 48, f 49, f 50, f 51, f 52, f 53, f 54, f 55, f 56, f 57, f 58, f 59, f 60, f 61, f 62, f 63, f 64, f 65, f 66, f 67, f 68, f 69, f 70, f 71, f 72, f 73], []⟩ _
  simp only at h0 h4 h5
  simp only [h0, h4, h5]
  clear h0 h4 h5
  conv => arg 2; whnf
  go_wp2
  go_ret2
  exact ⟨rfl, B.out⟩
set_option maxRecDepth 100000 in
set_option maxHeartbeats 2000000 in
theorem tr_3 (b TP : Nat) (kd X : Int) (ng qu : Bool) (M LD : Nat) (g : Nat) (a : Act) (w0 w : World) (B : Hid (Below w0.heap.size w0 w)) (r : Hid (w.heap[g]? = some (.cells #[.int .i64 kd, .bool ng, .int .u64 (M : Int), .int .i64 X, .bool qu, .int .u64 (LD : Int)] 27 (0, 0)))) (h : kd = 3) (ha : At 74 [(0, .int .u64 (b : Int)), (4, .pointer (some ⟨g, 0, none⟩)), (5, .int .u64 (TP : Int))] a) : Code.wp Try.prog (sq 3 body28) (bodyPost Try.prog Try.f28 fun e w' => e = .returned (.tuple #[.int .u64 (b : Int), .int .u64 (TP : Int)]) ∧ Below w0.heap.size w0 w') a w := by
  subst h
  obtain ⟨m0, m1, m2, m3, m4, m5⟩ := cells6 r.out
  obtain ⟨f, rfl, h0, h4, h5, -⟩ := ha.lit
  change Code.wp _ _ _ ⟨#[f 0, f 1, f 2, f 3, f 4, f 5, f 6, f 7, f 8, f 9, f 10, f 11, f 12, f 13, f 14, f 15, f 16, f 17, f 18, f 19, f 20, f 21, f 22, f 23, f 24, f 25, f 26, f 27, f 28, f 29, f 30, f 31, f 32, f 33, f 34, f 35, f 36, f 37, f 38, f 39, f 40, f 41, f 42, f 43, f 44, f 45, f 46, f 47, f 48, f 49, f 50, f 51, f 52, f 53, f 54, f 55, f 56, f 57, f 58, f 59, f 60, f 61, f 62, f 63, f 64, f 65, f 66, f 67, f 68, f 69, f 70, f 71, f 72, f 73], []⟩ _
  simp only at h0 h4 h5
  simp only [h0, h4, h5]
  clear h0 h4 h5
  conv => arg 2; whnf
  go_wp2
  go_ret2
  exact ⟨rfl, B.out⟩
set_option maxRecDepth 100000 in
set_option maxHeartbeats 2000000 in
theorem tr_0 (b TP : Nat) (kd X : Int) (ng qu : Bool) (M LD : Nat) (g : Nat) (a : Act) (w0 w : World) (B : Hid (Below w0.heap.size w0 w)) (r : Hid (w.heap[g]? = some (.cells #[.int .i64 kd, .bool ng, .int .u64 (M : Int), .int .i64 X, .bool qu, .int .u64 (LD : Int)] 27 (0, 0)))) (h : kd = 0) (ha : At 74 [(0, .int .u64 (b : Int)), (4, .pointer (some ⟨g, 0, none⟩)), (5, .int .u64 (TP : Int))] a) : Code.wp Try.prog (sq 3 body28) (bodyPost Try.prog Try.f28 fun e w' => e = .returned (.tuple #[.int .u64 (b : Int), .int .u64 (TP : Int)]) ∧ Below w0.heap.size w0 w') a w := by
  subst h
  obtain ⟨m0, m1, m2, m3, m4, m5⟩ := cells6 r.out
  obtain ⟨f, rfl, h0, h4, h5, -⟩ := ha.lit
  change Code.wp _ _ _ ⟨#[f 0, f 1, f 2, f 3, f 4, f 5, f 6, f 7, f 8, f 9, f 10, f 11, f 12, f 13, f 14, f 15, f 16, f 17, f 18, f 19, f 20, f 21, f 22, f 23, f 24, f 25, f 26, f 27, f 28, f 29, f 30, f 31, f 32, f 33, f 34, f 35, f 36, f 37, f 38, f 39, f 40, f 41, f 42, f 43, f 44, f 45, f 46, f 47, f 48, f 49, f 50, f 51, f 52, f 53, f 54, f 55, f 56, f 57, f 58, f 59, f 60, f 61, f 62, f 63, f 64, f 65, f 66, f 67, f 68, f 69, f 70, f 71, f 72, f 73], []⟩ _
  simp only at h0 h4 h5
  simp only [h0, h4, h5]
  clear h0 h4 h5
  conv => arg 2; whnf
  go_wp2
  go_ret2
  exact ⟨rfl, B.out⟩
set_option maxRecDepth 100000 in
set_option maxHeartbeats 2000000 in
theorem tr_p (b TP : Nat) (kd X : Int) (ng qu : Bool) (M LD : Nat) (g : Nat) (a : Act) (w0 w : World) (B : Hid (Below w0.heap.size w0 w)) (r : Hid (w.heap[g]? = some (.cells #[.int .i64 kd, .bool ng, .int .u64 (M : Int), .int .i64 X, .bool qu, .int .u64 (LD : Int)] 27 (0, 0)))) (h4 : (kd == 4) = false) (h3 : (kd == 3) = false) (h0 : (kd == 0) = false) (h : 0 ≤ X) (ha : At 74 [(0, .int .u64 (b : Int)), (4, .pointer (some ⟨g, 0, none⟩)), (5, .int .u64 (TP : Int))] a) : Code.wp Try.prog (sq 3 body28) (bodyPost Try.prog Try.f28 fun e w' => e = .returned (.tuple #[.int .u64 (b : Int), .int .u64 (TP : Int)]) ∧ Below w0.heap.size w0 w') a w := by
  obtain ⟨m0, m1, m2, m3, m4, m5⟩ := cells6 r.out
  obtain ⟨f, rfl, h0, h4, h5, -⟩ := ha.lit
  change Code.wp _ _ _ ⟨#[f 0, f 1, f 2, f 3, f 4, f 5, f 6, f 7, f 8, f 9, f 10, f 11, f 12, f 13, f 14, f 15, f 16, f 17, f 18, f 19, f 20, f 21, f 22, f 23, f 24, f 25, f 26, f 27, f 28, f 29, f 30, f 31, f 32, f 33, f 34, f 35, f 36, f 37, f 38, f 39, f 40, f 41, f 42, f 43, f 44, f 45, f 46, f 47, f 48, f 49, f 50, f 51, f 52, f 53, f 54, f 55, f 56, f 57, f 58, f 59, f 60, f 61, f 62, f 63, f 64, f 65, f 66, f 67, f 68, f 69, f 70, f 71, f 72, f 73], []⟩ _
  simp only at h0 h4 h5
  simp only [h0, h4, h5]
  clear h0 h4 h5
  conv => arg 2; whnf
  go_wp2
  go_ret2
  exact ⟨rfl, B.out⟩
set_option maxRecDepth 100000 in
set_option maxHeartbeats 2000000 in
theorem tr_g {Q : Exit → Act → World → Prop} (b TP : Nat) (kd X : Int) (ng qu : Bool) (M LD : Nat) (g : Nat) (a : Act) (w : World) (r : Hid (w.heap[g]? = some (.cells #[.int .i64 kd, .bool ng, .int .u64 (M : Int), .int .i64 X, .bool qu, .int .u64 (LD : Int)] 27 (0, 0)))) (h4 : (kd == 4) = false) (h3 : (kd == 3) = false) (h0 : (kd == 0) = false) (h : ¬ 0 ≤ X) (hK : Hid (∀ a, At 74 [(4, .pointer (some ⟨g, 0, none⟩)), (6, .int .u64 (M : Int)), (7, .int .u64 ((0 : Nat) : Int)), (8, .int .u64 ((1 : Nat) : Int))] a → Code.wp Try.prog (sq 7 body28) Q a w)) (ha : At 74 [(0, .int .u64 (b : Int)), (4, .pointer (some ⟨g, 0, none⟩)), (5, .int .u64 (TP : Int))] a) : Code.wp Try.prog (sq 3 body28) Q a w := by
  obtain ⟨m0, m1, m2, m3, m4, m5⟩ := cells6 r.out
  obtain ⟨f, rfl, h0, h4, h5, -⟩ := ha.lit
  change Code.wp _ _ _ ⟨#[f 0, f 1, f 2, f 3, f 4, f 5, f 6, f 7, f 8, f 9, f 10, f 11, f 12, f 13, f 14, f 15, f 16, f 17, f 18, f 19, f 20, f 21, f 22, f 23, f 24, f 25, f 26, f 27, f 28, f 29, f 30, f 31, f 32, f 33, f 34, f 35, f 36, f 37, f 38, f 39, f 40, f 41, f 42, f 43, f 44, f 45, f 46, f 47, f 48, f 49, f 50, f 51, f 52, f 53, f 54, f 55, f 56, f 57, f 58, f 59, f 60, f 61, f 62, f 63, f 64, f 65, f 66, f 67, f 68, f 69, f 70, f 71, f 72, f 73], []⟩ _
  simp only at h0 h4 h5
  simp only [h0, h4, h5]
  clear h0 h4 h5
  change Code.wp _ (Code.seq (hd (sq 3 body28)) (Code.seq (hd (sq 4 body28)) (Code.seq (hd (sq 5 body28)) (Code.seq (hd (sq 6 body28)) (sq 7 body28))))) _ _ _
  generalize sq 7 body28 = REST at hK ⊢
  conv => arg 2; arg 1; whnf
  conv => arg 2; arg 2; arg 1; whnf
  conv => arg 2; arg 2; arg 2; arg 1; whnf
  conv => arg 2; arg 2; arg 2; arg 2; arg 1; whnf
  go_wp2
  exact hK.out _ ⟨rfl, rfl, rfl, rfl, rfl, rfl, trivial⟩
set_option maxRecDepth 100000 in
set_option maxHeartbeats 2000000 in
theorem tr_l {Q : Exit → Act → World → Prop} (kd X : Int) (ng qu : Bool) (M LD : Nat) (g j : Nat) (a : Act) (w : World) (r : Hid (w.heap[g]? = some (.cells #[.int .i64 kd, .bool ng, .int .u64 (M : Int), .int .i64 X, .bool qu, .int .u64 (LD : Int)] 27 (0, 0)))) (hj : X = -(j : Int)) (hX : -20000 ≤ X) (hM : M < 9007199254740992) (hK : Hid (∀ a, At 74 [(4, .pointer (some ⟨g, 0, none⟩)), (6, .int .u64 ((M / 2 ^ j : Nat) : Int)), (7, .int .u64 ((M % 2 ^ j : Nat) : Int))] a → Code.wp Try.prog (sq 8 body28) Q a w)) (ha : At 74 [(4, .pointer (some ⟨g, 0, none⟩)), (6, .int .u64 (M : Int)), (7, .int .u64 ((0 : Nat) : Int)), (8, .int .u64 ((1 : Nat) : Int))] a) : Code.wp Try.prog (sq 7 body28) Q a w := by
  obtain ⟨m0, m1, m2, m3, m4, m5⟩ := cells6 r.out
  obtain ⟨f, rfl, h4, h6, h7, h8, -⟩ := ha.lit
  change Code.wp _ _ _ ⟨#[f 0, f 1, f 2, f 3, f 4, f 5, f 6, f 7, f 8, f 9, f 10, f 11, f 12, f 13, f 14, f 15, f 16, f 17, f 18, f 19, f 20, f 21, f 22, f 23, f 24, f 25, f 26, f 27, f 28, f 29, f 30, f 31, f 32, f 33, f 34, f 35, f 36, f 37, f 38, f 39, f 40, f 41, f 42, f 43, f 44, f 45, f 46, f 47, f 48, f 49, f 50, f 51, f 52, f 53, f 54, f 55, f 56, f 57, f 58, f 59, f 60, f 61, f 62, f 63, f 64, f 65, f 66, f 67, f 68, f 69, f 70, f 71, f 72, f 73], []⟩ _
  simp only at h4 h6 h7 h8
  simp only [h4, h6, h7, h8]
  clear h4 h6 h7 h8
  change Code.wp _ (Code.seq (hd (sq 7 body28)) (sq 8 body28)) _ _ _
  generalize sq 8 body28 = REST at hK ⊢
  conv => arg 2; arg 1; whnf
  replace hj := show Hid _ from hj
  go_wp2
  refine wp_loop_ghost_k (fun m a w' => ∃ i : Nat, i ≤ j ∧ m = j - i ∧ At 74 [(4, .pointer (some ⟨g, 0, none⟩)), (6, .int .u64 ((M / 2 ^ i : Nat) : Int)), (7, .int .u64 ((M % 2 ^ i : Nat) : Int)), (8, .int .u64 ((2 ^ i % 18446744073709551616 : Nat) : Int)), (9, .int .i64 (X + i))] a ∧ w' = w) j ⟨0, Nat.zero_le _, rfl, by rw [Nat.pow_zero, Nat.div_one, Nat.mod_one, show X + ((0 : Nat) : Int) = X by omega]; exact ⟨rfl, rfl, rfl, rfl, rfl, rfl, rfl, trivial⟩, rfl⟩ ?_
  rintro m a w' ⟨i, hi, rfl, ha, rfl⟩ J0 K1 hJ hK1
  have hj1 := hj.out
  have hal : M / 2 ^ i < 9007199254740992 := Nat.lt_of_le_of_lt (Nat.div_le_self _ _) hM
  by_cases c : i < j
  · have hnew : M / 2 ^ (i + 1) = M / 2 ^ i / 2 := by rw [Nat.pow_succ, Nat.div_div_eq_div_mul]
    have hdiv : ((M / 2 ^ i : Nat) : Int).tdiv 2 = ((M / 2 ^ (i + 1) : Nat) : Int) := by
      rw [Int.tdiv_eq_ediv_of_nonneg (Int.natCast_nonneg _), hnew, Int.natCast_ediv]; rfl
    have hwa := u64_small (M / 2 ^ (i + 1)) (by have := Nat.div_le_self M (2 ^ (i + 1)); omega)
    have hmod : M % 2 ^ (i + 1) = M % 2 ^ i + 2 ^ i * (M / 2 ^ i % 2) := Nat.mod_pow_succ
    have hmul : IntKind.u64.wrap (((2 ^ i % 18446744073709551616 : Nat) : Int) * 2) = ((2 ^ (i + 1) % 18446744073709551616 : Nat) : Int) := by
      rw [u64_wrap, Nat.pow_succ, Int.natCast_emod, Int.natCast_emod, Int.natCast_mul]
      omega
    have hbit := bitE (M / 2 ^ i) (by omega)
    have hle := Nat.mod_le M (2 ^ (i + 1))
    have hsmall : M / 2 ^ i % 2 = 1 → 2 ^ i % 18446744073709551616 = 2 ^ i ∧ 2 ^ i < 9007199254740992 := fun h => by
      have h1 : 1 ≤ M / 2 ^ i := Nat.pos_of_ne_zero fun z => by rw [z] at h; exact absurd h (by decide)
      have h2 := (Nat.le_div_iff_mul_le (Nat.two_pow_pos i)).1 h1
      have h3 : 2 ^ i < 9007199254740992 := Nat.lt_of_le_of_lt (by rw [Nat.one_mul] at h2; exact h2) hM
      exact ⟨Nat.mod_eq_of_lt (Nat.lt_trans h3 (by decide)), h3⟩
    have hpos := Nat.two_pow_pos i
    have hyb : -50000 ≤ X + (i : Int) ∧ X + (i : Int) < 0 := by omega
    obtain ⟨hy1, hy2⟩ := hyb
    generalize hy : X + (i : Int) = y at *
    have hy := show Hid _ from hy
    have hc := show Hid _ from c
    have hJ := show Hid _ from hJ
    by_cases o : M / 2 ^ i % 2 = 1
    · obtain ⟨s1, s2⟩ := hsmall o
      rw [o, Nat.mul_one] at hmod
      rw [o, beq_self_eq_true] at hbit
      rw [s1] at hmul ha
      have hadd : IntKind.u64.wrap (((M % 2 ^ i : Nat) : Int) + ((2 ^ i : Nat) : Int)) = ((M % 2 ^ (i + 1) : Nat) : Int) := by
        rw [hmod, ← Int.natCast_add]
        exact u64_small _ (by omega)
      have hgt : (0 : Int) < ((2 ^ i : Nat) : Int) := by omega
      generalize ha' : M / 2 ^ (i + 1) = a' at *
      generalize M / 2 ^ i = b0 at *
      generalize hr' : M % 2 ^ (i + 1) = r' at *
      generalize M % 2 ^ i = r0 at *
      generalize hp' : 2 ^ (i + 1) % 18446744073709551616 = p' at *
      generalize 2 ^ i = p0 at *
      have ha' := show Hid _ from ha'
      have hr' := show Hid _ from hr'
      have hp' := show Hid _ from hp'
      clear hnew hi c hal hM hK m0 m1 m2 m3 m4 m5 hX hj1 hle hsmall hpos o s1 s2 hmod
      obtain ⟨f, rfl, h4, h6, h7, h8, h9, -⟩ := ha.lit
      change Code.wp _ _ _ ⟨#[f 0, f 1, f 2, f 3, f 4, f 5, f 6, f 7, f 8, f 9, f 10, f 11, f 12, f 13, f 14, f 15, f 16, f 17, f 18, f 19, f 20, f 21, f 22, f 23, f 24, f 25, f 26, f 27, f 28, f 29, f 30, f 31, f 32, f 33, f 34, f 35, f 36, f 37, f 38, f 39, f 40, f 41, f 42, f 43, f 44, f 45, f 46, f 47, f 48, f 49, f 50, f 51, f 52, f 53, f 54, f 55, f 56, f 57, f 58, f 59, f 60, f 61, f 62, f 63, f 64, f 65, f 66, f 67, f 68, f 69, f 70, f 71, f 72, f 73], []⟩ _
      simp only at h4 h6 h7 h8 h9
      simp only [h4, h6, h7, h8, h9]
      clear h4 h6 h7 h8 h9
      go_wp2
      exact Handed.intro (j - (i + 1)) (by have := hc.out; omega) (hJ.out _ _ _ ⟨i + 1, hc.out, rfl, by rw [ha'.out, hr'.out, hp'.out, show X + ((i + 1 : Nat) : Int) = y + 1 by have := hy.out; omega]; exact ⟨rfl, rfl, rfl, rfl, rfl, rfl, rfl, trivial⟩, rfl⟩)
    · have o0 : M / 2 ^ i % 2 = 0 := by omega
      rw [o0, Nat.mul_zero] at hmod
      replace hmod : M % 2 ^ (i + 1) = M % 2 ^ i := hmod
      rw [o0] at hbit
      replace hbit := hbit.trans (show ((0 : Nat) == 1) = false from rfl)
      rw [← hmod] at ha
      generalize ha' : M / 2 ^ (i + 1) = a' at *
      generalize M / 2 ^ i = b0 at *
      generalize hr' : M % 2 ^ (i + 1) = r' at *
      generalize hp' : 2 ^ (i + 1) % 18446744073709551616 = p' at *
      generalize 2 ^ i % 18446744073709551616 = p0 at *
      have ha' := show Hid _ from ha'
      have hr' := show Hid _ from hr'
      have hp' := show Hid _ from hp'
      clear hnew hi c hal hM hK m0 m1 m2 m3 m4 m5 hX hj1 hle hsmall hpos o o0 hmod
      obtain ⟨f, rfl, h4, h6, h7, h8, h9, -⟩ := ha.lit
      change Code.wp _ _ _ ⟨#[f 0, f 1, f 2, f 3, f 4, f 5, f 6, f 7, f 8, f 9, f 10, f 11, f 12, f 13, f 14, f 15, f 16, f 17, f 18, f 19, f 20, f 21, f 22, f 23, f 24, f 25, f 26, f 27, f 28, f 29, f 30, f 31, f 32, f 33, f 34, f 35, f 36, f 37, f 38, f 39, f 40, f 41, f 42, f 43, f 44, f 45, f 46, f 47, f 48, f 49, f 50, f 51, f 52, f 53, f 54, f 55, f 56, f 57, f 58, f 59, f 60, f 61, f 62, f 63, f 64, f 65, f 66, f 67, f 68, f 69, f 70, f 71, f 72, f 73], []⟩ _
      simp only at h4 h6 h7 h8 h9
      simp only [h4, h6, h7, h8, h9]
      clear h4 h6 h7 h8 h9
      go_wp2
      exact Handed.intro (j - (i + 1)) (by have := hc.out; omega) (hJ.out _ _ _ ⟨i + 1, hc.out, rfl, by rw [ha'.out, hr'.out, hp'.out, show X + ((i + 1 : Nat) : Int) = y + 1 by have := hy.out; omega]; exact ⟨rfl, rfl, rfl, rfl, rfl, rfl, rfl, trivial⟩, rfl⟩)
  · have hil : i = j := by omega
    subst hil
    have hy : X + (i : Int) = 0 := by omega
    rw [hy] at ha
    clear c hi hJ hK1 hal hM m0 m1 m2 m3 m4 m5 hX hj1 hj hy
    generalize M / 2 ^ i = q0 at *
    generalize M % 2 ^ i = q1 at *
    generalize 2 ^ i % 18446744073709551616 = q2 at *
    obtain ⟨f, rfl, h4, h6, h7, h8, h9, -⟩ := ha.lit
    change Code.wp _ _ _ ⟨#[f 0, f 1, f 2, f 3, f 4, f 5, f 6, f 7, f 8, f 9, f 10, f 11, f 12, f 13, f 14, f 15, f 16, f 17, f 18, f 19, f 20, f 21, f 22, f 23, f 24, f 25, f 26, f 27, f 28, f 29, f 30, f 31, f 32, f 33, f 34, f 35, f 36, f 37, f 38, f 39, f 40, f 41, f 42, f 43, f 44, f 45, f 46, f 47, f 48, f 49, f 50, f 51, f 52, f 53, f 54, f 55, f 56, f 57, f 58, f 59, f 60, f 61, f 62, f 63, f 64, f 65, f 66, f 67, f 68, f 69, f 70, f 71, f 72, f 73], []⟩ _
    simp only at h4 h6 h7 h8 h9
    simp only [h4, h6, h7, h8, h9]
    clear h4 h6 h7 h8 h9
    go_wp2
    exact hK.out _ ⟨rfl, rfl, rfl, rfl, rfl, trivial⟩
set_option maxRecDepth 100000 in
set_option maxHeartbeats 2000000 in
theorem tr_e (kd X : Int) (ng qu : Bool) (M LD : Nat) (g Q0 RE V1 V2 : Nat) (a : Act) (w0 w : World) (B : Hid (Below w0.heap.size w0 w)) (r : Hid (w.heap[g]? = some (.cells #[.int .i64 kd, .bool ng, .int .u64 (M : Int), .int .i64 X, .bool qu, .int .u64 (LD : Int)] 27 (0, 0)))) (k15 : ∀ w, Calls Try.prog 15 #[.bool ng, .int .u64 (Q0 : Int), .int .i64 0, .bool false, .agg #[.int .i64 52, .int .i64 2047, .int .i64 1023]] w fun e w' => e = .returned (.int .u64 (V1 : Int)) ∧ Below w.heap.size w w') (k15b : ∀ w, Calls Try.prog 15 #[.bool ng, .int .u64 (RE : Int), .int .i64 X, .bool false, .agg #[.int .i64 52, .int .i64 2047, .int .i64 1023]] w fun e w' => e = .returned (.int .u64 (V2 : Int)) ∧ Below w.heap.size w w') (ha : At 74 [(4, .pointer (some ⟨g, 0, none⟩)), (6, .int .u64 (Q0 : Int)), (7, .int .u64 (RE : Int))] a) : Code.wp Try.prog (sq 8 body28) (bodyPost Try.prog Try.f28 fun e w' => e = .returned (.tuple #[.int .u64 (V1 : Int), .int .u64 (V2 : Int)]) ∧ Below w0.heap.size w0 w') a w := by
  have k12 := k16l
  unfold k16L at k12
  obtain ⟨f, rfl, h4, h6, h7, -⟩ := ha.lit
  change Code.wp _ _ _ ⟨#[f 0, f 1, f 2, f 3, f 4, f 5, f 6, f 7, f 8, f 9, f 10, f 11, f 12, f 13, f 14, f 15, f 16, f 17, f 18, f 19, f 20, f 21, f 22, f 23, f 24, f 25, f 26, f 27, f 28, f 29, f 30, f 31, f 32, f 33, f 34, f 35, f 36, f 37, f 38, f 39, f 40, f 41, f 42, f 43, f 44, f 45, f 46, f 47, f 48, f 49, f 50, f 51, f 52, f 53, f 54, f 55, f 56, f 57, f 58, f 59, f 60, f 61, f 62, f 63, f 64, f 65, f 66, f 67, f 68, f 69, f 70, f 71, f 72, f 73], []⟩ _
  simp only at h4 h6 h7
  simp only [h4, h6, h7]
  clear h4 h6 h7
  conv => arg 2; whnf
  go_wp2
  refine wp_region_vals (a1 := ?a1r18n1) (grown _) [.pointer (some ⟨g, 1, none⟩), .bool ng, .int .u64 (Q0 : Int), .agg #[.int .i64 52, .int .i64 2047, .int .i64 1023], .int .u64 (V1 : Int), .pointer (some ⟨g, 1, none⟩), .bool ng, .int .u64 (RE : Int), .pointer (some ⟨g, 3, none⟩), .int .i64 X, .agg #[.int .i64 52, .int .i64 2047, .int .i64 1023], .int .u64 (V2 : Int), .int .u64 (V1 : Int), .int .u64 (V2 : Int)] 74 rfl (by kernel_rfl) (by kernel_rfl) (grown_start _) ⟨?o0r18n1, ?o1r18n1, ?o2r18n1, ?o3r18n1, ?o4r18n1, ?o5r18n1, ?o6r18n1, ?o7r18n1, ?o8r18n1, ?o9r18n1, ?o10r18n1, ?o11r18n1, ?o12r18n1, ?o13r18n1, trivial⟩ ?har18n1 ?hdoner18n1
  case har18n1 => simp [putAll, Act.put]; exact rfl
  case o0r18n1 => exact ValOp.pure (grown_steady _ 0) [(4, .pointer (some ⟨g, 0, none⟩))] rfl (fun _ _ h2 => ⟨(h2 4 (by kernel_rfl)).trans rfl, trivial⟩) (by kernel_rfl) (fun _ _ _ _ _ => by kernel_rfl)
  case o1r18n1 => exact ValOp.pure (grown_steady _ 1) [(62, .pointer (some ⟨g, 1, none⟩))] rfl (fun _ h1 _ => ⟨h1 0 62 (by kernel_rfl), trivial⟩) (by kernel_rfl) (fun _ _ _ hg _ => run_read rfl rfl (run_cell (below_at r.out hg) rfl (Try.isAgg4 _)))
  case o2r18n1 => exact ValOp.pure (grown_steady _ 2) [(6, .int .u64 (Q0 : Int))] rfl (fun _ _ h2 => ⟨(h2 6 (by kernel_rfl)).trans rfl, trivial⟩) (by kernel_rfl) (fun _ _ _ _ _ => by kernel_rfl)
  case o3r18n1 => exact ValOp.call (grown_steady _ 3) [] rfl (fun _ _ _ => trivial) (by kernel_rfl) 12 #[] (fun _ => by kernel_rfl) (fun _ w _ => k12 w)
  case o4r18n1 => exact ValOp.call (grown_steady _ 4) [(63, .bool ng), (64, .int .u64 (Q0 : Int)), (65, .agg #[.int .i64 52, .int .i64 2047, .int .i64 1023])] rfl (fun _ h1 _ => ⟨h1 1 63 (by kernel_rfl), h1 2 64 (by kernel_rfl), h1 3 65 (by kernel_rfl), trivial⟩) (by kernel_rfl) 15 #[.bool ng, .int .u64 (Q0 : Int), .int .i64 0, .bool false, .agg #[.int .i64 52, .int .i64 2047, .int .i64 1023]] (fun _ => by kernel_rfl) (fun _ w _ => k15 w)
  case o5r18n1 => exact ValOp.pure (grown_steady _ 5) [(4, .pointer (some ⟨g, 0, none⟩))] rfl (fun _ _ h2 => ⟨(h2 4 (by kernel_rfl)).trans rfl, trivial⟩) (by kernel_rfl) (fun _ _ _ _ _ => by kernel_rfl)
  case o6r18n1 => exact ValOp.pure (grown_steady _ 6) [(67, .pointer (some ⟨g, 1, none⟩))] rfl (fun _ h1 _ => ⟨h1 5 67 (by kernel_rfl), trivial⟩) (by kernel_rfl) (fun _ _ _ hg _ => run_read rfl rfl (run_cell (below_at r.out hg) rfl (Try.isAgg4 _)))
  case o7r18n1 => exact ValOp.pure (grown_steady _ 7) [(7, .int .u64 (RE : Int))] rfl (fun _ _ h2 => ⟨(h2 7 (by kernel_rfl)).trans rfl, trivial⟩) (by kernel_rfl) (fun _ _ _ _ _ => by kernel_rfl)
  case o8r18n1 => exact ValOp.pure (grown_steady _ 8) [(4, .pointer (some ⟨g, 0, none⟩))] rfl (fun _ _ h2 => ⟨(h2 4 (by kernel_rfl)).trans rfl, trivial⟩) (by kernel_rfl) (fun _ _ _ _ _ => by kernel_rfl)
  case o9r18n1 => exact ValOp.pure (grown_steady _ 9) [(70, .pointer (some ⟨g, 3, none⟩))] rfl (fun _ h1 _ => ⟨h1 8 70 (by kernel_rfl), trivial⟩) (by kernel_rfl) (fun _ _ _ hg _ => run_read rfl rfl (run_cell (below_at r.out hg) rfl (Try.isAgg3 _)))
  case o10r18n1 => exact ValOp.call (grown_steady _ 10) [] rfl (fun _ _ _ => trivial) (by kernel_rfl) 12 #[] (fun _ => by kernel_rfl) (fun _ w _ => k12 w)
  case o11r18n1 => exact ValOp.call (grown_steady _ 11) [(68, .bool ng), (69, .int .u64 (RE : Int)), (71, .int .i64 X), (72, .agg #[.int .i64 52, .int .i64 2047, .int .i64 1023])] rfl (fun _ h1 _ => ⟨h1 6 68 (by kernel_rfl), h1 7 69 (by kernel_rfl), h1 9 71 (by kernel_rfl), h1 10 72 (by kernel_rfl), trivial⟩) (by kernel_rfl) 15 #[.bool ng, .int .u64 (RE : Int), .int .i64 X, .bool false, .agg #[.int .i64 52, .int .i64 2047, .int .i64 1023]] (fun _ => by kernel_rfl) (fun _ w _ => k15b w)
  case o12r18n1 => exact ValOp.pure (grown_steady _ 12) [(66, .int .u64 (V1 : Int))] rfl (fun _ h1 _ => ⟨h1 4 66 (by kernel_rfl), trivial⟩) (by kernel_rfl) (fun _ _ _ _ _ => by kernel_rfl)
  case o13r18n1 => exact ValOp.pure (grown_steady _ 13) [(73, .int .u64 (V2 : Int))] rfl (fun _ h1 _ => ⟨h1 11 73 (by kernel_rfl), trivial⟩) (by kernel_rfl) (fun _ _ _ _ _ => by kernel_rfl)
  intro w1 s1 _ bb
  have B1 : Hid (Below w0.heap.size w0 w1) := B.out.trans ((show Below _ _ w1 from bb).mono B.out.size)
  clear bb
  go_wp2
  go_ret2
  exact ⟨rfl, B1.out⟩
set_option maxHeartbeats 1000000 in
theorem trunc_any (b : Nat) (w : World) (hb : b < 18446744073709551616) : Calls Try.prog 28 #[.int .u64 (b : Int)] w fun e w' => e = .returned (.tuple #[.int .u64 (modW (pt 52 11 1023 b) b : Int), .int .u64 (modR (pt 52 11 1023 b) b : Int)]) ∧ Below w.heap.size w w' := by
  have k11 := fun w => rparts_any lay64 b w hb
  have h34 := exp_34 b
  have hT : bits .and .u64 (b : Int) 9223372036854775808 = (((if (pt 52 11 1023 b).neg = true then 9223372036854775808 else 0) : Nat) : Int) := by
    rw [and_top b hb, neg_is hb]
    by_cases c : b < 9223372036854775808
    · rw [if_pos c, if_neg (by simp; omega)]; rfl
    · rw [if_neg c, if_pos (by simp; omega)]; rfl
  obtain ⟨xm, xe1, xe2, xk, xp, xz, xq, xn, xz0, xs0⟩ := pt_range b
  unfold modW modR
  generalize pt 52 11 1023 b = x at *
  obtain ⟨kd, ng, M, X, qu, LD⟩ := x
  unfold Pt.val at k11
  dsimp only at *
  refine tr_a b _ kd X ng qu M LD w hT k11 fun a w1 g B1 r1 ha => ?_
  by_cases c4 : kd = 4
  · rw [if_pos c4, if_pos (show 0 ≤ X by omega)]
    exact tr_4 b _ kd X ng qu M LD g a w w1 B1 r1 c4 ha
  rw [if_neg c4]
  by_cases hX : 0 ≤ X
  · rw [if_pos hX, if_pos hX, Nat.add_zero]
    by_cases c3 : kd = 3
    · exact tr_3 b _ kd X ng qu M LD g a w w1 B1 r1 c3 ha
    by_cases c0 : kd = 0
    · exact tr_0 b _ kd X ng qu M LD g a w w1 B1 r1 c0 ha
    · exact tr_p b _ kd X ng qu M LD g a w w1 B1 r1 (beq_eq_false_iff_ne.2 c4) (beq_eq_false_iff_ne.2 c3) (beq_eq_false_iff_ne.2 c0) hX ha
  · rw [if_neg hX, if_neg hX]
    obtain ⟨j, hj⟩ : ∃ j : Nat, -X = j := ⟨_, (Int.toNat_of_nonneg (by omega)).symm⟩
    rw [hj, Int.toNat_natCast]
    refine tr_g b _ kd X ng qu M LD g a w1 r1 (beq_eq_false_iff_ne.2 c4) (beq_eq_false_iff_ne.2 (by omega)) (beq_eq_false_iff_ne.2 (by omega)) hX (fun a ha => ?_) ha
    refine tr_l kd X ng qu M LD g j a w1 r1 (by omega) (by omega) xm (fun a ha => ?_) ha
    have l1 := Nat.div_le_self M (2 ^ j)
    have l2 := Nat.mod_le M (2 ^ j)
    have k15 := fun w => rrounded_all lay64 ng (M / 2 ^ j) 0 w (fun _ => by decide) (by omega) (by omega) (by omega)
    have k15b := fun w => rrounded_all lay64 ng (M % 2 ^ j) X w (fun _ => by omega) (by omega) (by omega) (by omega)
    exact tr_e kd X ng qu M LD g _ _ _ _ a w w1 B1 r1 k15 k15b ha
end Go.Proofs.Ytjcjecbffnadaab
