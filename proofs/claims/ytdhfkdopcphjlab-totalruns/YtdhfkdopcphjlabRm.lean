/-
  The contract of rounded, of a number: the sum as a float. Conditions: the sum lies in one block; its size is below 2^4213.
-/
import Derived.Test.YtdhfkdopcphjlabRn
namespace Go.Proofs.Ytdhfkdopcphjlab
open Go.RowKit
attribute [local go_sem] rowOf_size rowW_size isRow_at rowIn_at setRow_at
theorem stW' (W : Nat → Nat) (w : World) (m : Nat) (h : isRow w m 66) : (storeCells ⟨m, 0, none⟩ (rowW W).toList 0).run Try.prog w = .ok () (w.setRow m (rowW W)) := st_at w m 66 .u64 _ h
attribute [local go_sem] stW'
set_option maxRecDepth 100000 in
set_option maxHeartbeats 2000000 in
theorem rd_1 {Q : Exit → Act → World → Prop} (b : Nat) (sg : Bool) (PU : (Nat → Nat) → Prop) (a : Act) (w : World) (k58 : Calls Try.prog 91 #[.pointer (some ⟨b, 0, none⟩)] w fun e w' => ∃ U, e = .returned (.tuple #[.agg (rowW U), .bool sg]) ∧ PU U ∧ Below w.heap.size w w')
    (hK : Hid (∀ U a w2 g, PU U → Below w.heap.size w w2 → w2.heap[g]? = some (.cells (rowW U) 67 (0, 0)) → At 75 [(3, .pointer (some ⟨g, 0, none⟩)), (4, .bool sg)] a → Code.wp Try.prog (sq 3 body41) Q a w2)) (ha : At 75 [(0, .pointer (some ⟨b, 0, none⟩))] a) : Code.wp Try.prog (sq 2 body41) Q a w := by
  obtain ⟨fr, rfl, h0, -⟩ := ha.lit
  change Code.wp _ _ _ ⟨#[fr 0, fr 1, fr 2, fr 3, fr 4, fr 5, fr 6, fr 7, fr 8, fr 9, fr 10, fr 11, fr 12, fr 13, fr 14, fr 15, fr 16, fr 17, fr 18, fr 19, fr 20, fr 21, fr 22, fr 23, fr 24, fr 25, fr 26, fr 27, fr 28, fr 29, fr 30, fr 31, fr 32, fr 33, fr 34, fr 35, fr 36, fr 37, fr 38, fr 39, fr 40, fr 41, fr 42, fr 43, fr 44, fr 45, fr 46, fr 47, fr 48, fr 49, fr 50, fr 51, fr 52, fr 53, fr 54, fr 55, fr 56, fr 57, fr 58, fr 59, fr 60, fr 61, fr 62, fr 63, fr 64, fr 65, fr 66, fr 67, fr 68, fr 69, fr 70, fr 71, fr 72, fr 73, fr 74], []⟩ _
  simp only at h0
  simp only [h0]
  clear h0
  change Code.wp _ (Code.seq (hd (sq 2 body41)) (sq 3 body41)) _ _ _
  generalize sq 3 body41 = REST at hK ⊢
  conv => arg 2; arg 1; whnf
  obtain ⟨hz, hi⟩ := zero_of_info info56
  clear hi
  go_wp2_with fail
  refine k58.mono ?_
  rintro e w2 ⟨U, rfl, hU, B1⟩
  replace hU : Hid (PU U) := hU
  go_wp2
  exact hK.out U _ _ w2.heap.size hU.out (B1.alloc B1.size _) (heap_alloc_last _ _) ⟨rfl, rfl, rfl, rfl, trivial⟩
set_option maxRecDepth 100000 in
set_option maxHeartbeats 2000000 in
theorem rd_2 {Q : Exit → Act → World → Prop} (g L f : Nat) (sg : Bool) (U : Nat → Nat) (a : Act) (w1 : World) (hr : w1.heap[g]? = some (.cells (rowW U) 67 (0, 0))) (hL : L ≤ 5000) (hf : (f : Int) = max ((L : Int) - 63) 0)
    (k59 : ∀ w, Calls Try.prog 92 #[.agg (rowW U)] w fun e w' => e = .returned (.int .i64 (L : Nat)) ∧ Below w.heap.size w w')
    (hK : Hid (∀ a w2, Below w1.heap.size w1 w2 → At 75 [(3, .pointer (some ⟨g, 0, none⟩)), (4, .bool sg), (5, .int .i64 ((f : Nat) : Int))] a → Code.wp Try.prog (sq 4 body41) Q a w2)) (ha : At 75 [(3, .pointer (some ⟨g, 0, none⟩)), (4, .bool sg)] a) : Code.wp Try.prog (sq 3 body41) Q a w1 := by
  obtain ⟨fr, rfl, h3, h4, -⟩ := ha.lit
  change Code.wp _ _ _ ⟨#[fr 0, fr 1, fr 2, fr 3, fr 4, fr 5, fr 6, fr 7, fr 8, fr 9, fr 10, fr 11, fr 12, fr 13, fr 14, fr 15, fr 16, fr 17, fr 18, fr 19, fr 20, fr 21, fr 22, fr 23, fr 24, fr 25, fr 26, fr 27, fr 28, fr 29, fr 30, fr 31, fr 32, fr 33, fr 34, fr 35, fr 36, fr 37, fr 38, fr 39, fr 40, fr 41, fr 42, fr 43, fr 44, fr 45, fr 46, fr 47, fr 48, fr 49, fr 50, fr 51, fr 52, fr 53, fr 54, fr 55, fr 56, fr 57, fr 58, fr 59, fr 60, fr 61, fr 62, fr 63, fr 64, fr 65, fr 66, fr 67, fr 68, fr 69, fr 70, fr 71, fr 72, fr 73, fr 74], []⟩ _
  simp only at h3 h4
  simp only [h3, h4]
  clear h3 h4
  change Code.wp _ (Code.seq (hd (sq 3 body41)) (sq 4 body41)) _ _ _
  generalize sq 4 body41 = REST at hK ⊢
  conv => arg 2; arg 1; whnf
  have HR : Hid (w1.heap[g]? = some (.cells (rowW U) 67 (0, 0))) := hr
  have HF : Hid ((f : Int) = max ((L : Int) - 63) 0) := hf
  clear hr hf
  have hL2 : (L : Int) ≤ 5000 := by omega
  go_wp2_with (refine wpList_ld rfl 67 _ rfl g rfl 66 Try.underlying67 rfl (by kernel_rfl) (rowW U) ⟨_, _, HR.out, rowW_size U⟩ (by unfold rowIn; rw [HR.out]) ?_)
  refine (k59 _).mono ?_
  rintro e w2 ⟨rfl, b2⟩
  go_wp2
  rw [← HF.out]
  exact hK.out _ _ b2 ⟨rfl, rfl, rfl, rfl, rfl, trivial⟩
theorem or_i64 (m : Nat) (h : m < 9223372036854775808) : bits .or .i64 (m : Int) 1 = ((m / 2 * 2 + 1 : Nat) : Int) := by
  have e : (BitVec.ofInt 64 (m : Int) ||| BitVec.ofInt 64 1).toNat = m / 2 * 2 + 1 := by
    rw [BitVec.toNat_or, ofInt_u64 m (by omega), show (BitVec.ofInt 64 1).toNat = 1 from rfl]
    rcases Nat.mod_two_eq_zero_or_one m with q | q
    · rw [nat_join 1 m 1 (by rw [Nat.pow_one]; exact q) (by decide)]; omega
    · have h3 : m = (m - 1) ||| 1 := by rw [nat_join 1 (m - 1) 1 (by rw [Nat.pow_one]; omega) (by decide)]; omega
      rw [h3, Nat.or_assoc, Nat.or_self, nat_join 1 (m - 1) 1 (by rw [Nat.pow_one]; omega) (by decide)]; omega
  show IntKind.i64.wrap ((BitVec.ofInt 64 (m : Int) ||| BitVec.ofInt 64 1).toNat : Nat) = _
  rw [e, IntKind.wrap_i64]
  omega
set_option maxRecDepth 100000 in
set_option maxHeartbeats 2000000 in
theorem rd_3 {Q : Exit → Act → World → Prop} (g f m : Nat) (sg : Bool) (U : Nat → Nat) (a : Act) (w1 : World) (hr : w1.heap[g]? = some (.cells (rowW U) 67 (0, 0))) (hm : m < 9223372036854775808)
    (k60 : ∀ w, Calls Try.prog 93 #[.agg (rowW U), .int .i64 ((f : Nat) : Int)] w fun e w' => e = .returned (.int .u64 (m : Nat)) ∧ Below w.heap.size w w')
    (hK : Hid (∀ a w2, Below w1.heap.size w1 w2 → At 75 [(3, .pointer (some ⟨g, 0, none⟩)), (4, .bool sg), (5, .int .i64 ((f : Nat) : Int)), (6, .int .i64 ((m : Nat) : Int))] a → Code.wp Try.prog (sq 5 body41) Q a w2)) (ha : At 75 [(3, .pointer (some ⟨g, 0, none⟩)), (4, .bool sg), (5, .int .i64 ((f : Nat) : Int))] a) : Code.wp Try.prog (sq 4 body41) Q a w1 := by
  obtain ⟨fr, rfl, h3, h4, h5, -⟩ := ha.lit
  change Code.wp _ _ _ ⟨#[fr 0, fr 1, fr 2, fr 3, fr 4, fr 5, fr 6, fr 7, fr 8, fr 9, fr 10, fr 11, fr 12, fr 13, fr 14, fr 15, fr 16, fr 17, fr 18, fr 19, fr 20, fr 21, fr 22, fr 23, fr 24, fr 25, fr 26, fr 27, fr 28, fr 29, fr 30, fr 31, fr 32, fr 33, fr 34, fr 35, fr 36, fr 37, fr 38, fr 39, fr 40, fr 41, fr 42, fr 43, fr 44, fr 45, fr 46, fr 47, fr 48, fr 49, fr 50, fr 51, fr 52, fr 53, fr 54, fr 55, fr 56, fr 57, fr 58, fr 59, fr 60, fr 61, fr 62, fr 63, fr 64, fr 65, fr 66, fr 67, fr 68, fr 69, fr 70, fr 71, fr 72, fr 73, fr 74], []⟩ _
  simp only at h3 h4 h5
  simp only [h3, h4, h5]
  clear h3 h4 h5
  change Code.wp _ (Code.seq (hd (sq 4 body41)) (sq 5 body41)) _ _ _
  generalize sq 5 body41 = REST at hK ⊢
  conv => arg 2; arg 1; whnf
  have HR : Hid (w1.heap[g]? = some (.cells (rowW U) 67 (0, 0))) := hr
  clear hr
  have hm2 : (m : Int) < 9223372036854775808 := by omega
  go_wp2_with (refine wpList_ld rfl 67 _ rfl g rfl 66 Try.underlying67 rfl (by kernel_rfl) (rowW U) ⟨_, _, HR.out, rowW_size U⟩ (by unfold rowIn; rw [HR.out]) ?_)
  refine (k60 _).mono ?_
  rintro e w2 ⟨rfl, b2⟩
  go_wp2
  exact hK.out _ _ b2 ⟨rfl, rfl, rfl, rfl, rfl, rfl, trivial⟩
set_option maxRecDepth 100000 in
set_option maxHeartbeats 2000000 in
theorem rd_4 {Q : Exit → Act → World → Prop} (g f m : Nat) (sg r : Bool) (U : Nat → Nat) (a : Act) (w1 : World) (hr : w1.heap[g]? = some (.cells (rowW U) 67 (0, 0))) (hm : m < 9223372036854775808)
    (k61 : ∀ w, Calls Try.prog 94 #[.agg (rowW U), .int .i64 ((f : Nat) : Int)] w fun e w' => e = .returned (.bool r) ∧ Below w.heap.size w w')
    (hK : Hid (∀ a w2, Below w1.heap.size w1 w2 → At 75 [(4, .bool sg), (5, .int .i64 ((f : Nat) : Int)), (6, .int .i64 ((if r = true then m / 2 * 2 + 1 else m : Nat) : Int))] a → Code.wp Try.prog (sq 6 body41) Q a w2)) (ha : At 75 [(3, .pointer (some ⟨g, 0, none⟩)), (4, .bool sg), (5, .int .i64 ((f : Nat) : Int)), (6, .int .i64 ((m : Nat) : Int))] a) : Code.wp Try.prog (sq 5 body41) Q a w1 := by
  obtain ⟨fr, rfl, h3, h4, h5, h6, -⟩ := ha.lit
  change Code.wp _ _ _ ⟨#[fr 0, fr 1, fr 2, fr 3, fr 4, fr 5, fr 6, fr 7, fr 8, fr 9, fr 10, fr 11, fr 12, fr 13, fr 14, fr 15, fr 16, fr 17, fr 18, fr 19, fr 20, fr 21, fr 22, fr 23, fr 24, fr 25, fr 26, fr 27, fr 28, fr 29, fr 30, fr 31, fr 32, fr 33, fr 34, fr 35, fr 36, fr 37, fr 38, fr 39, fr 40, fr 41, fr 42, fr 43, fr 44, fr 45, fr 46, fr 47, fr 48, fr 49, fr 50, fr 51, fr 52, fr 53, fr 54, fr 55, fr 56, fr 57, fr 58, fr 59, fr 60, fr 61, fr 62, fr 63, fr 64, fr 65, fr 66, fr 67, fr 68, fr 69, fr 70, fr 71, fr 72, fr 73, fr 74], []⟩ _
  simp only at h3 h4 h5 h6
  simp only [h3, h4, h5, h6]
  clear h3 h4 h5 h6
  change Code.wp _ (Code.seq (hd (sq 5 body41)) (sq 6 body41)) _ _ _
  generalize sq 6 body41 = REST at hK ⊢
  conv => arg 2; arg 1; whnf
  have HR : Hid (w1.heap[g]? = some (.cells (rowW U) 67 (0, 0))) := hr
  clear hr
  have hor := or_i64 m hm
  go_wp2_with (refine wpList_ld rfl 67 _ rfl g rfl 66 Try.underlying67 rfl (by kernel_rfl) (rowW U) ⟨_, _, HR.out, rowW_size U⟩ (by unfold rowIn; rw [HR.out]) ?_)
  refine (k61 _).mono ?_
  rintro e w2 ⟨rfl, b2⟩
  cases r
  · go_wp2
    exact hK.out _ _ b2 ⟨rfl, rfl, rfl, rfl, rfl, trivial⟩
  · generalize m / 2 * 2 + 1 = m2 at *
    go_wp2
    exact hK.out _ _ b2 ⟨rfl, rfl, rfl, rfl, rfl, trivial⟩
set_option maxRecDepth 100000 in
set_option maxHeartbeats 2000000 in
theorem rd_5 {Q : Ending → World → Prop} (f m : Nat) (sg : Bool) (V : Nat) (a : Act) (w1 : World) (hm : m < 9223372036854775808) (hf : f ≤ 5000)
    (k62 : ∀ w, Calls Try.prog 95 #[.int .i64 (if sg = true then -(m : Int) else (m : Int)), .int .i64 ((f : Int) - 2148)] w fun e w' => e = .returned (.float .f64 V) ∧ Below w.heap.size w w')
    (hK : Hid (∀ w2, Below w1.heap.size w1 w2 → Q (.returned (.float .f64 V)) w2)) (ha : At 75 [(4, .bool sg), (5, .int .i64 ((f : Nat) : Int)), (6, .int .i64 ((m : Nat) : Int))] a) : Code.wp Try.prog (sq 6 body41) (bodyPost Try.prog Try.f52 Q) a w1 := by
  obtain ⟨fr, rfl, h4, h5, h6, -⟩ := ha.lit
  change Code.wp _ _ _ ⟨#[fr 0, fr 1, fr 2, fr 3, fr 4, fr 5, fr 6, fr 7, fr 8, fr 9, fr 10, fr 11, fr 12, fr 13, fr 14, fr 15, fr 16, fr 17, fr 18, fr 19, fr 20, fr 21, fr 22, fr 23, fr 24, fr 25, fr 26, fr 27, fr 28, fr 29, fr 30, fr 31, fr 32, fr 33, fr 34, fr 35, fr 36, fr 37, fr 38, fr 39, fr 40, fr 41, fr 42, fr 43, fr 44, fr 45, fr 46, fr 47, fr 48, fr 49, fr 50, fr 51, fr 52, fr 53, fr 54, fr 55, fr 56, fr 57, fr 58, fr 59, fr 60, fr 61, fr 62, fr 63, fr 64, fr 65, fr 66, fr 67, fr 68, fr 69, fr 70, fr 71, fr 72, fr 73, fr 74], []⟩ _
  simp only at h4 h5 h6
  simp only [h4, h5, h6]
  clear h4 h5 h6
  conv => arg 2; whnf
  have hf2 : (f : Int) ≤ 5000 := by omega
  have hm2 : (m : Int) < 9223372036854775808 := by omega
  have e2 : (-2148 : Int) + (f : Int) = (f : Int) - 2148 := by omega
  rw [← e2] at k62
  cases sg
  · rw [if_neg (by decide)] at k62
    go_wp2_with fail
    refine (k62 _).mono ?_
    rintro e w2 ⟨rfl, b2⟩
    go_wp2
    exact hK.out _ b2
  · rw [if_pos rfl] at k62
    go_wp2_with fail
    refine (k62 _).mono ?_
    rintro e w2 ⟨rfl, b2⟩
    go_wp2
    exact hK.out _ b2
end Go.Proofs.Ytdhfkdopcphjlab
