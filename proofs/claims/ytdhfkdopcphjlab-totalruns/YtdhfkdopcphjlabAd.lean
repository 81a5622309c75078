/-
  The contract of add: a product of two floats, added to the sum. Conditions: the floats' bits fit; the sum lies in one block.
-/
import Derived.Test.YtdhfkdopcphjlabPv
import Derived.Test.YtdhfkdopcphjlabPs
import Derived.Test.YtdhfkdopcphjlabCt
namespace Go.Proofs.Ytdhfkdopcphjlab
open Go.RowKit
noncomputable def body40 : Code := Try.f51.body.getD .skip
/-- What a sum has met: none, infinite ones of either sign, -0, others. -/
structure Fl where
  n : Bool
  a : Bool
  l : Bool
  m : Bool
  o : Bool
/-- These cells, behind the words. -/
def FlAt (cs : Array Value) (F : Fl) : Prop := 71 ≤ cs.size ∧ cs[66]? = some (.bool F.n) ∧ cs[67]? = some (.bool F.a) ∧ cs[68]? = some (.bool F.l) ∧ cs[69]? = some (.bool F.m) ∧ cs[70]? = some (.bool F.o)
/-- Block b holds a sum: what it has met, and its whole number; what stands behind it. -/
def ExAt (w : World) (b : Nat) (t : TypeId) (R : Nat → Option Value) (F : Fl) (Z : Int) : Prop :=
  ∃ cs W, w.heap[b]? = some (.cells (mkW cs W) t (0, 0)) ∧ (∀ i, W i < 18446744073709551616) ∧ FlAt cs F ∧ (∀ j, 71 ≤ j → cs[j]? = R j) ∧ ((val W 66 : Nat) : Int) % (2 ^ 4224 : Nat) = Z % (2 ^ 4224 : Nat)
theorem ExAt.below {w w' : World} {b : Nat} {t : TypeId} {R : Nat → Option Value} {F : Fl} {Z : Int} (h : ExAt w b t R F Z) (hb : Below w.heap.size w w') : ExAt w' b t R F Z := by
  obtain ⟨cs, W, h1, h2⟩ := h
  exact ⟨cs, W, (hb.block b (Array.getElem?_eq_some_iff.1 h1).1).trans h1, h2⟩
theorem ExAt.lt {w : World} {b : Nat} {t : TypeId} {R : Nat → Option Value} {F : Fl} {Z : Int} (h : ExAt w b t R F Z) : b < w.heap.size := by
  obtain ⟨cs, W, h1, h2⟩ := h
  exact (Array.getElem?_eq_some_iff.1 h1).1
theorem ExAt.frozen {w : World} {b : Nat} {t : TypeId} {R : Nat → Option Value} {F : Fl} {Z : Int} (h : ExAt w b t R F Z) (k : Nat) : w.frozen? ⟨b, k, none⟩ = false := by
  obtain ⟨cs, W, h1, h2⟩ := h
  simp [World.frozen?, h1]
theorem ExAt.flags {w : World} {b : Nat} {t : TypeId} {R : Nat → Option Value} {F : Fl} {Z : Int} (h : ExAt w b t R F Z) : w.cell? ⟨b, 66, none⟩ = some (.bool F.n) ∧ w.cell? ⟨b, 67, none⟩ = some (.bool F.a) ∧ w.cell? ⟨b, 68, none⟩ = some (.bool F.l) ∧ w.cell? ⟨b, 69, none⟩ = some (.bool F.m) ∧ w.cell? ⟨b, 70, none⟩ = some (.bool F.o) := by
  obtain ⟨cs, W, h1, h2, ⟨f0, f1, f2, f3, f4, f5⟩, h4⟩ := h
  refine ⟨?_, ?_, ?_, ?_, ?_⟩ <;> rw [cell_of_row w b _ _ _ _ h1, mkW_high _ _ _ (by decide)] <;> assumption
theorem FlAt.set {cs : Array Value} {F : Fl} (h : FlAt cs F) : FlAt (cs.setIfInBounds 66 (.bool true)) { F with n := true } ∧ FlAt (cs.setIfInBounds 67 (.bool true)) { F with a := true } ∧ FlAt (cs.setIfInBounds 68 (.bool true)) { F with l := true } ∧ FlAt (cs.setIfInBounds 69 (.bool true)) { F with m := true } ∧ FlAt (cs.setIfInBounds 70 (.bool true)) { F with o := true } := by
  obtain ⟨f0, f1, f2, f3, f4, f5⟩ := h
  have z66 : 66 < cs.size := by omega
  have z67 : 67 < cs.size := by omega
  have z68 : 68 < cs.size := by omega
  have z69 : 69 < cs.size := by omega
  have z70 : 70 < cs.size := by omega
  refine ⟨?_, ?_, ?_, ?_, ?_⟩ <;> refine ⟨by simpa using f0, ?_, ?_, ?_, ?_, ?_⟩ <;> rw [Array.getElem?_setIfInBounds] <;> first | (rw [if_neg (by decide)]; assumption) | (rw [if_pos rfl, if_pos (by assumption)])
theorem ExAt.put {w : World} {b : Nat} {t : TypeId} {R : Nat → Option Value} {F G : Fl} {Z : Int} (h : ExAt w b t R F Z) (k : Nat) (hk : 66 ≤ k) (hk2 : k < 71) (hG : ∀ cs, FlAt cs F → FlAt (cs.setIfInBounds k (.bool true)) G) : ExAt (w.setCell ⟨b, k, none⟩ (.bool true)) b t R G Z := by
  obtain ⟨cs, W, h1, h2, h3, h4, h5⟩ := h
  refine ⟨cs.setIfInBounds k (.bool true), W, ?_, h2, hG cs h3, fun j hj => ?_, h5⟩
  · rw [set_at _ h1, mkW_flag _ _ _ _ hk]
  · rw [Array.getElem?_setIfInBounds, if_neg (by omega)]
    exact h4 j hj
set_option maxRecDepth 100000 in
set_option maxHeartbeats 2000000 in
theorem ad_0 {Q : Ending → World → Prop} (x y b : Nat) (p q : Pt) (w : World)
    (k1 : ∀ w, Calls Try.prog 85 #[.float .f64 x] w fun e w' => e = .returned (.agg #[.int .i64 p.kind, .bool p.neg, .int .u64 ((p.mant : Nat) : Int), .int .i64 p.exp, .bool p.quiet, .int .u64 ((p.load : Nat) : Int)]) ∧ Below w.heap.size w w') (k2 : ∀ w, Calls Try.prog 85 #[.float .f64 y] w fun e w' => e = .returned (.agg #[.int .i64 q.kind, .bool q.neg, .int .u64 ((q.mant : Nat) : Int), .int .i64 q.exp, .bool q.quiet, .int .u64 ((q.load : Nat) : Int)]) ∧ Below w.heap.size w w')
    (hK : Hid (∀ a w1 g1 g2, Below w.heap.size w w1 → w1.heap[g1]? = some (.cells #[.int .i64 p.kind, .bool p.neg, .int .u64 ((p.mant : Nat) : Int), .int .i64 p.exp, .bool p.quiet, .int .u64 ((p.load : Nat) : Int)] 100 (0, 0)) → w1.heap[g2]? = some (.cells #[.int .i64 q.kind, .bool q.neg, .int .u64 ((q.mant : Nat) : Int), .int .i64 q.exp, .bool q.quiet, .int .u64 ((q.load : Nat) : Int)] 100 (0, 0)) → w.heap.size ≤ g1 → w.heap.size ≤ g2 → At 101 [(0, .pointer (some ⟨b, 0, none⟩)), (6, .pointer (some ⟨g1, 0, none⟩)), (7, .pointer (some ⟨g2, 0, none⟩))] a → Code.wp Try.prog (sq 1 body40) (bodyPost Try.prog Try.f51 Q) a w1)) : Calls Try.prog 51 #[.pointer (some ⟨b, 0, none⟩), .float .f64 x, .float .f64 y] w Q := by
  go_enter Try.func51, Try.ntmps51
  change Code.wp _ (Code.seq (hd (sq 0 body40)) (sq 1 body40)) _ _ _
  generalize sq 1 body40 = REST at hK ⊢
  conv => arg 2; arg 1; whnf
  go_wp2_with fail
  refine (k1 _).mono ?_
  rintro e w1 ⟨rfl, b1⟩
  go_wp2_with fail
  refine (k2 _).mono ?_
  rintro e w2 ⟨rfl, b2⟩
  go_wp2
  have e1 : (w2.alloc (.cells #[.int .i64 p.kind, .bool p.neg, .int .u64 ((p.mant : Nat) : Int), .int .i64 p.exp, .bool p.quiet, .int .u64 ((p.load : Nat) : Int)] 100)).heap.size = w2.heap.size + 1 := World.size_alloc _ _
  refine hK.out _ _ w2.heap.size (w2.heap.size + 1) ?_ ?_ ?_ ?_ ?_ ⟨rfl, rfl, rfl, rfl, rfl, trivial⟩
  · exact ((b1.trans (b2.mono b1.size)).alloc (Nat.le_trans b1.size b2.size) _).alloc (by simp; have := b1.size; have := b2.size; omega) _
  · rw [Below.heap_alloc _ _ _ (by simp)]; exact heap_alloc_last _ _
  · rw [← e1]; exact heap_alloc_last _ _
  · exact Nat.le_trans b1.size b2.size
  · have := b1.size; have := b2.size; omega
set_option maxRecDepth 100000 in
set_option maxHeartbeats 2000000 in
theorem ad_1 {Q : Exit → Act → World → Prop} (b g1 g2 : Nat) (p q : Pt) (a : Act) (w1 : World) (h1 : w1.heap[g1]? = some (.cells #[.int .i64 p.kind, .bool p.neg, .int .u64 ((p.mant : Nat) : Int), .int .i64 p.exp, .bool p.quiet, .int .u64 ((p.load : Nat) : Int)] 100 (0, 0))) (h2 : w1.heap[g2]? = some (.cells #[.int .i64 q.kind, .bool q.neg, .int .u64 ((q.mant : Nat) : Int), .int .i64 q.exp, .bool q.quiet, .int .u64 ((q.load : Nat) : Int)] 100 (0, 0)))
    (hK : Hid (∀ a, At 101 [(0, .pointer (some ⟨b, 0, none⟩)), (6, .pointer (some ⟨g1, 0, none⟩)), (7, .pointer (some ⟨g2, 0, none⟩)), (8, .bool (p.neg != q.neg)), (9, .bool (p.kind == 0 || q.kind == 0))] a → Code.wp Try.prog (sq 3 body40) Q a w1)) (ha : At 101 [(0, .pointer (some ⟨b, 0, none⟩)), (6, .pointer (some ⟨g1, 0, none⟩)), (7, .pointer (some ⟨g2, 0, none⟩))] a) : Code.wp Try.prog (sq 1 body40) Q a w1 := by
  have cp0 : w1.cell? ⟨g1, 0, none⟩ = some (.int .i64 p.kind) := cell_of_row _ _ 0 _ _ _ h1
  have cp1 : w1.cell? ⟨g1, 1, none⟩ = some (.bool p.neg) := cell_of_row _ _ 1 _ _ _ h1
  have cq0 : w1.cell? ⟨g2, 0, none⟩ = some (.int .i64 q.kind) := cell_of_row _ _ 0 _ _ _ h2
  have cq1 : w1.cell? ⟨g2, 1, none⟩ = some (.bool q.neg) := cell_of_row _ _ 1 _ _ _ h2
  obtain ⟨f, rfl, h0, h6, h7, -⟩ := ha.lit
  change Code.wp _ _ _ ⟨#[f 0, f 1, f 2, f 3, f 4, f 5, f 6, f 7, f 8, f 9, f 10, f 11, f 12, f 13, f 14, f 15, f 16, f 17, f 18, f 19, f 20, f 21, f 22, f 23, f 24, f 25, f 26, f 27, f 28, f 29, f 30, f 31, f 32, f 33, f 34, f 35, f 36, f 37, f 38, f 39, f 40, f 41, f 42, f 43, f 44, f 45, f 46, f 47, f 48, f 49, f 50, f 51, f 52, f 53, f 54, f 55, f 56, f 57, f 58, f 59, f 60, f 61, f 62, f 63, f 64, f 65, f 66, f 67, f 68, f 69, f 70, f 71, f 72, f 73, f 74, f 75, f 76, f 77, f 78, f 79, f 80, f 81, f 82, f 83, f 84, f 85, f 86, f 87, f 88, f 89, f 90, f 91, f 92, f 93, f 94, f 95, f 96, f 97, f 98, f 99, f 100], []⟩ _
  simp only at h0 h6 h7
  simp only [h0, h6, h7]
  clear h0 h6 h7
  change Code.wp _ (Code.seq (hd (sq 1 body40)) (Code.seq (hd (sq 2 body40)) (sq 3 body40))) _ _ _
  generalize sq 3 body40 = REST at hK ⊢
  conv => arg 2; arg 1; whnf
  conv => arg 2; arg 2; arg 1; whnf
  replace hK := show Hid _ from hK
  clear h1 h2
  generalize p.neg = pn at *
  generalize q.neg = qn at *
  cases e1 : p.kind == 0 <;> cases e2 : q.kind == 0
  all_goals
    rw [e1, e2] at hK
    go_wp2
    exact hK.out _ ⟨rfl, rfl, rfl, rfl, rfl, rfl, rfl, trivial⟩
set_option maxRecDepth 100000 in
set_option maxHeartbeats 2000000 in
theorem ad_2 {Q : Exit → Act → World → Prop} (b g1 g2 : Nat) (p q : Pt) (a : Act) (w1 : World) (h1 : w1.heap[g1]? = some (.cells #[.int .i64 p.kind, .bool p.neg, .int .u64 ((p.mant : Nat) : Int), .int .i64 p.exp, .bool p.quiet, .int .u64 ((p.load : Nat) : Int)] 100 (0, 0))) (h2 : w1.heap[g2]? = some (.cells #[.int .i64 q.kind, .bool q.neg, .int .u64 ((q.mant : Nat) : Int), .int .i64 q.exp, .bool q.quiet, .int .u64 ((q.load : Nat) : Int)] 100 (0, 0)))
    (hK : Hid (∀ a, At 101 [(0, .pointer (some ⟨b, 0, none⟩)), (6, .pointer (some ⟨g1, 0, none⟩)), (7, .pointer (some ⟨g2, 0, none⟩)), (8, .bool (p.neg != q.neg)), (9, .bool (p.kind == 0 || q.kind == 0)), (10, .bool (p.kind == 3 || q.kind == 3))] a → Code.wp Try.prog (sq 4 body40) Q a w1)) (ha : At 101 [(0, .pointer (some ⟨b, 0, none⟩)), (6, .pointer (some ⟨g1, 0, none⟩)), (7, .pointer (some ⟨g2, 0, none⟩)), (8, .bool (p.neg != q.neg)), (9, .bool (p.kind == 0 || q.kind == 0))] a) : Code.wp Try.prog (sq 3 body40) Q a w1 := by
  have cp0 : w1.cell? ⟨g1, 0, none⟩ = some (.int .i64 p.kind) := cell_of_row _ _ 0 _ _ _ h1
  have cq0 : w1.cell? ⟨g2, 0, none⟩ = some (.int .i64 q.kind) := cell_of_row _ _ 0 _ _ _ h2
  obtain ⟨f, rfl, h0, h6, h7, h8, h9, -⟩ := ha.lit
  change Code.wp _ _ _ ⟨#[f 0, f 1, f 2, f 3, f 4, f 5, f 6, f 7, f 8, f 9, f 10, f 11, f 12, f 13, f 14, f 15, f 16, f 17, f 18, f 19, f 20, f 21, f 22, f 23, f 24, f 25, f 26, f 27, f 28, f 29, f 30, f 31, f 32, f 33, f 34, f 35, f 36, f 37, f 38, f 39, f 40, f 41, f 42, f 43, f 44, f 45, f 46, f 47, f 48, f 49, f 50, f 51, f 52, f 53, f 54, f 55, f 56, f 57, f 58, f 59, f 60, f 61, f 62, f 63, f 64, f 65, f 66, f 67, f 68, f 69, f 70, f 71, f 72, f 73, f 74, f 75, f 76, f 77, f 78, f 79, f 80, f 81, f 82, f 83, f 84, f 85, f 86, f 87, f 88, f 89, f 90, f 91, f 92, f 93, f 94, f 95, f 96, f 97, f 98, f 99, f 100], []⟩ _
  simp only at h0 h6 h7 h8 h9
  simp only [h0, h6, h7, h8, h9]
  clear h0 h6 h7 h8 h9
  change Code.wp _ (Code.seq (hd (sq 3 body40)) (sq 4 body40)) _ _ _
  generalize sq 4 body40 = REST at hK ⊢
  conv => arg 2; arg 1; whnf
  replace hK := show Hid _ from hK
  clear h1 h2
  generalize (p.kind == 0 || q.kind == 0) = nt at *
  generalize (p.neg != q.neg) = sn at *
  cases e1 : p.kind == 3 <;> cases e2 : q.kind == 3
  all_goals
    rw [e1, e2] at hK
    go_wp2
    exact hK.out _ ⟨rfl, rfl, rfl, rfl, rfl, rfl, rfl, rfl, trivial⟩
set_option maxRecDepth 100000 in
set_option maxHeartbeats 2000000 in
theorem ad_n {Q : Exit → Act → World → Prop} (b g1 g2 : Nat) (sn nt ii : Bool) (p q : Pt) (a : Act) (w1 : World) (h1 : w1.heap[g1]? = some (.cells #[.int .i64 p.kind, .bool p.neg, .int .u64 ((p.mant : Nat) : Int), .int .i64 p.exp, .bool p.quiet, .int .u64 ((p.load : Nat) : Int)] 100 (0, 0))) (h2 : w1.heap[g2]? = some (.cells #[.int .i64 q.kind, .bool q.neg, .int .u64 ((q.mant : Nat) : Int), .int .i64 q.exp, .bool q.quiet, .int .u64 ((q.load : Nat) : Int)] 100 (0, 0))) (v : Value) (c66 : w1.cell? ⟨b, 66, none⟩ = some v) (f66 : w1.frozen? ⟨b, 66, none⟩ = false) (hc : (p.kind == 4 || q.kind == 4 || (ii && nt)) = true)
    (hK : Hid (∀ a, At 101 [(0, .pointer (some ⟨b, 0, none⟩)), (8, .bool sn), (9, .bool nt)] a → Code.wp Try.prog (sq 5 body40) Q a (w1.setCell ⟨b, 66, none⟩ (.bool true)))) (ha : At 101 [(0, .pointer (some ⟨b, 0, none⟩)), (6, .pointer (some ⟨g1, 0, none⟩)), (7, .pointer (some ⟨g2, 0, none⟩)), (8, .bool sn), (9, .bool nt), (10, .bool ii)] a) : Code.wp Try.prog (sq 4 body40) Q a w1 := by
  have cp0 : w1.cell? ⟨g1, 0, none⟩ = some (.int .i64 p.kind) := cell_of_row _ _ 0 _ _ _ h1
  have cq0 : w1.cell? ⟨g2, 0, none⟩ = some (.int .i64 q.kind) := cell_of_row _ _ 0 _ _ _ h2
  obtain ⟨f, rfl, h0, h6, h7, h8, h9, h10, -⟩ := ha.lit
  change Code.wp _ _ _ ⟨#[f 0, f 1, f 2, f 3, f 4, f 5, f 6, f 7, f 8, f 9, f 10, f 11, f 12, f 13, f 14, f 15, f 16, f 17, f 18, f 19, f 20, f 21, f 22, f 23, f 24, f 25, f 26, f 27, f 28, f 29, f 30, f 31, f 32, f 33, f 34, f 35, f 36, f 37, f 38, f 39, f 40, f 41, f 42, f 43, f 44, f 45, f 46, f 47, f 48, f 49, f 50, f 51, f 52, f 53, f 54, f 55, f 56, f 57, f 58, f 59, f 60, f 61, f 62, f 63, f 64, f 65, f 66, f 67, f 68, f 69, f 70, f 71, f 72, f 73, f 74, f 75, f 76, f 77, f 78, f 79, f 80, f 81, f 82, f 83, f 84, f 85, f 86, f 87, f 88, f 89, f 90, f 91, f 92, f 93, f 94, f 95, f 96, f 97, f 98, f 99, f 100], []⟩ _
  simp only at h0 h6 h7 h8 h9 h10
  simp only [h0, h6, h7, h8, h9, h10]
  clear h0 h6 h7 h8 h9 h10
  change Code.wp _ (Code.seq (hd (sq 4 body40)) (sq 5 body40)) _ _ _
  generalize sq 5 body40 = REST at hK ⊢
  conv => arg 2; arg 1; whnf
  clear h1 h2
  cases e1 : p.kind == 4
  · cases e2 : q.kind == 4
    · rw [e1, e2] at hc
      have e3 : ii = true := by cases ii <;> simp_all
      have e4 : nt = true := by cases nt <;> simp_all
      subst e3 e4
      clear hc
      go_wp2
      exact hK.out _ ⟨rfl, rfl, rfl, rfl, rfl, trivial⟩
    · clear hc
      go_wp2
      exact hK.out _ ⟨rfl, rfl, rfl, rfl, rfl, trivial⟩
  · clear hc
    go_wp2
    exact hK.out _ ⟨rfl, rfl, rfl, rfl, rfl, trivial⟩
set_option maxRecDepth 100000 in
set_option maxHeartbeats 2000000 in
theorem ad_l {Q : Exit → Act → World → Prop} (b g1 g2 : Nat) (sn nt ii : Bool) (p q : Pt) (a : Act) (w1 : World) (h1 : w1.heap[g1]? = some (.cells #[.int .i64 p.kind, .bool p.neg, .int .u64 ((p.mant : Nat) : Int), .int .i64 p.exp, .bool p.quiet, .int .u64 ((p.load : Nat) : Int)] 100 (0, 0))) (h2 : w1.heap[g2]? = some (.cells #[.int .i64 q.kind, .bool q.neg, .int .u64 ((q.mant : Nat) : Int), .int .i64 q.exp, .bool q.quiet, .int .u64 ((q.load : Nat) : Int)] 100 (0, 0))) (v : Value) (c68 : w1.cell? ⟨b, 68, none⟩ = some v) (f68 : w1.frozen? ⟨b, 68, none⟩ = false) (e1 : (p.kind == 4) = false) (e2 : (q.kind == 4) = false) (e3 : ii = true) (e4 : nt = false) (e5 : sn = true)
    (hK : Hid (∀ a, At 101 [(0, .pointer (some ⟨b, 0, none⟩)), (8, .bool sn), (9, .bool nt)] a → Code.wp Try.prog (sq 5 body40) Q a (w1.setCell ⟨b, 68, none⟩ (.bool true)))) (ha : At 101 [(0, .pointer (some ⟨b, 0, none⟩)), (6, .pointer (some ⟨g1, 0, none⟩)), (7, .pointer (some ⟨g2, 0, none⟩)), (8, .bool sn), (9, .bool nt), (10, .bool ii)] a) : Code.wp Try.prog (sq 4 body40) Q a w1 := by
  have cp0 : w1.cell? ⟨g1, 0, none⟩ = some (.int .i64 p.kind) := cell_of_row _ _ 0 _ _ _ h1
  have cq0 : w1.cell? ⟨g2, 0, none⟩ = some (.int .i64 q.kind) := cell_of_row _ _ 0 _ _ _ h2
  obtain ⟨f, rfl, h0, h6, h7, h8, h9, h10, -⟩ := ha.lit
  change Code.wp _ _ _ ⟨#[f 0, f 1, f 2, f 3, f 4, f 5, f 6, f 7, f 8, f 9, f 10, f 11, f 12, f 13, f 14, f 15, f 16, f 17, f 18, f 19, f 20, f 21, f 22, f 23, f 24, f 25, f 26, f 27, f 28, f 29, f 30, f 31, f 32, f 33, f 34, f 35, f 36, f 37, f 38, f 39, f 40, f 41, f 42, f 43, f 44, f 45, f 46, f 47, f 48, f 49, f 50, f 51, f 52, f 53, f 54, f 55, f 56, f 57, f 58, f 59, f 60, f 61, f 62, f 63, f 64, f 65, f 66, f 67, f 68, f 69, f 70, f 71, f 72, f 73, f 74, f 75, f 76, f 77, f 78, f 79, f 80, f 81, f 82, f 83, f 84, f 85, f 86, f 87, f 88, f 89, f 90, f 91, f 92, f 93, f 94, f 95, f 96, f 97, f 98, f 99, f 100], []⟩ _
  simp only at h0 h6 h7 h8 h9 h10
  simp only [h0, h6, h7, h8, h9, h10]
  clear h0 h6 h7 h8 h9 h10
  change Code.wp _ (Code.seq (hd (sq 4 body40)) (sq 5 body40)) _ _ _
  generalize sq 5 body40 = REST at hK ⊢
  conv => arg 2; arg 1; whnf
  clear h1 h2
  subst e3 e4 e5
  go_wp2
  exact hK.out _ ⟨rfl, rfl, rfl, rfl, rfl, trivial⟩
set_option maxRecDepth 100000 in
set_option maxHeartbeats 2000000 in
theorem ad_a {Q : Exit → Act → World → Prop} (b g1 g2 : Nat) (sn nt ii : Bool) (p q : Pt) (a : Act) (w1 : World) (h1 : w1.heap[g1]? = some (.cells #[.int .i64 p.kind, .bool p.neg, .int .u64 ((p.mant : Nat) : Int), .int .i64 p.exp, .bool p.quiet, .int .u64 ((p.load : Nat) : Int)] 100 (0, 0))) (h2 : w1.heap[g2]? = some (.cells #[.int .i64 q.kind, .bool q.neg, .int .u64 ((q.mant : Nat) : Int), .int .i64 q.exp, .bool q.quiet, .int .u64 ((q.load : Nat) : Int)] 100 (0, 0))) (v : Value) (c67 : w1.cell? ⟨b, 67, none⟩ = some v) (f67 : w1.frozen? ⟨b, 67, none⟩ = false) (e1 : (p.kind == 4) = false) (e2 : (q.kind == 4) = false) (e3 : ii = true) (e4 : nt = false) (e5 : sn = false)
    (hK : Hid (∀ a, At 101 [(0, .pointer (some ⟨b, 0, none⟩)), (8, .bool sn), (9, .bool nt)] a → Code.wp Try.prog (sq 5 body40) Q a (w1.setCell ⟨b, 67, none⟩ (.bool true)))) (ha : At 101 [(0, .pointer (some ⟨b, 0, none⟩)), (6, .pointer (some ⟨g1, 0, none⟩)), (7, .pointer (some ⟨g2, 0, none⟩)), (8, .bool sn), (9, .bool nt), (10, .bool ii)] a) : Code.wp Try.prog (sq 4 body40) Q a w1 := by
  have cp0 : w1.cell? ⟨g1, 0, none⟩ = some (.int .i64 p.kind) := cell_of_row _ _ 0 _ _ _ h1
  have cq0 : w1.cell? ⟨g2, 0, none⟩ = some (.int .i64 q.kind) := cell_of_row _ _ 0 _ _ _ h2
  obtain ⟨f, rfl, h0, h6, h7, h8, h9, h10, -⟩ := ha.lit
  change Code.wp _ _ _ ⟨#[f 0, f 1, f 2, f 3, f 4, f 5, f 6, f 7, f 8, f 9, f 10, f 11, f 12, f 13, f 14, f 15, f 16, f 17, f 18, f 19, f 20, f 21, f 22, f 23, f 24, f 25, f 26, f 27, f 28, f 29, f 30, f 31, f 32, f 33, f 34, f 35, f 36, f 37, f 38, f 39, f 40, f 41, f 42, f 43, f 44, f 45, f 46, f 47, f 48, f 49, f 50, f 51, f 52, f 53, f 54, f 55, f 56, f 57, f 58, f 59, f 60, f 61, f 62, f 63, f 64, f 65, f 66, f 67, f 68, f 69, f 70, f 71, f 72, f 73, f 74, f 75, f 76, f 77, f 78, f 79, f 80, f 81, f 82, f 83, f 84, f 85, f 86, f 87, f 88, f 89, f 90, f 91, f 92, f 93, f 94, f 95, f 96, f 97, f 98, f 99, f 100], []⟩ _
  simp only at h0 h6 h7 h8 h9 h10
  simp only [h0, h6, h7, h8, h9, h10]
  clear h0 h6 h7 h8 h9 h10
  change Code.wp _ (Code.seq (hd (sq 4 body40)) (sq 5 body40)) _ _ _
  generalize sq 5 body40 = REST at hK ⊢
  conv => arg 2; arg 1; whnf
  clear h1 h2
  subst e3 e4 e5
  go_wp2
  exact hK.out _ ⟨rfl, rfl, rfl, rfl, rfl, trivial⟩
set_option maxRecDepth 100000 in
set_option maxHeartbeats 2000000 in
theorem ad_z {Q : Exit → Act → World → Prop} (b g1 g2 : Nat) (sn nt ii : Bool) (p q : Pt) (a : Act) (w1 : World) (h1 : w1.heap[g1]? = some (.cells #[.int .i64 p.kind, .bool p.neg, .int .u64 ((p.mant : Nat) : Int), .int .i64 p.exp, .bool p.quiet, .int .u64 ((p.load : Nat) : Int)] 100 (0, 0))) (h2 : w1.heap[g2]? = some (.cells #[.int .i64 q.kind, .bool q.neg, .int .u64 ((q.mant : Nat) : Int), .int .i64 q.exp, .bool q.quiet, .int .u64 ((q.load : Nat) : Int)] 100 (0, 0))) (e1 : (p.kind == 4) = false) (e2 : (q.kind == 4) = false) (e3 : ii = false) (e4 : nt = true)
    (hK : Hid (∀ a, At 101 [(0, .pointer (some ⟨b, 0, none⟩)), (8, .bool sn), (9, .bool nt)] a → Code.wp Try.prog (sq 5 body40) Q a (w1))) (ha : At 101 [(0, .pointer (some ⟨b, 0, none⟩)), (6, .pointer (some ⟨g1, 0, none⟩)), (7, .pointer (some ⟨g2, 0, none⟩)), (8, .bool sn), (9, .bool nt), (10, .bool ii)] a) : Code.wp Try.prog (sq 4 body40) Q a w1 := by
  have cp0 : w1.cell? ⟨g1, 0, none⟩ = some (.int .i64 p.kind) := cell_of_row _ _ 0 _ _ _ h1
  have cq0 : w1.cell? ⟨g2, 0, none⟩ = some (.int .i64 q.kind) := cell_of_row _ _ 0 _ _ _ h2
  obtain ⟨f, rfl, h0, h6, h7, h8, h9, h10, -⟩ := ha.lit
  change Code.wp _ _ _ ⟨#[f 0, f 1, f 2, f 3, f 4, f 5, f 6, f 7, f 8, f 9, f 10, f 11, f 12, f 13, f 14, f 15, f 16, f 17, f 18, f 19, f 20, f 21, f 22, f 23, f 24, f 25, f 26, f 27, f 28, f 29, f 30, f 31, f 32, f 33, f 34, f 35, f 36, f 37, f 38, f 39, f 40, f 41, f 42, f 43, f 44, f 45, f 46, f 47, f 48, f 49, f 50, f 51, f 52, f 53, f 54, f 55, f 56, f 57, f 58, f 59, f 60, f 61, f 62, f 63, f 64, f 65, f 66, f 67, f 68, f 69, f 70, f 71, f 72, f 73, f 74, f 75, f 76, f 77, f 78, f 79, f 80, f 81, f 82, f 83, f 84, f 85, f 86, f 87, f 88, f 89, f 90, f 91, f 92, f 93, f 94, f 95, f 96, f 97, f 98, f 99, f 100], []⟩ _
  simp only at h0 h6 h7 h8 h9 h10
  simp only [h0, h6, h7, h8, h9, h10]
  clear h0 h6 h7 h8 h9 h10
  change Code.wp _ (Code.seq (hd (sq 4 body40)) (sq 5 body40)) _ _ _
  generalize sq 5 body40 = REST at hK ⊢
  conv => arg 2; arg 1; whnf
  clear h1 h2
  subst e3 e4
  go_wp2
  exact hK.out _ ⟨rfl, rfl, rfl, rfl, rfl, trivial⟩
set_option maxRecDepth 100000 in
set_option maxHeartbeats 2000000 in
theorem ad_p {Q : Exit → Act → World → Prop} (b g1 g2 H L : Nat) (sn : Bool) (p q : Pt) (a : Act) (w1 : World) (h1 : w1.heap[g1]? = some (.cells #[.int .i64 p.kind, .bool p.neg, .int .u64 ((p.mant : Nat) : Int), .int .i64 p.exp, .bool p.quiet, .int .u64 ((p.load : Nat) : Int)] 100 (0, 0))) (h2 : w1.heap[g2]? = some (.cells #[.int .i64 q.kind, .bool q.neg, .int .u64 ((q.mant : Nat) : Int), .int .i64 q.exp, .bool q.quiet, .int .u64 ((q.load : Nat) : Int)] 100 (0, 0))) (e1 : (p.kind == 4) = false) (e2 : (q.kind == 4) = false) (X A : Int) (hX : IntKind.i64.wrap (p.exp + q.exp) = X) (hA : wrap64 (X + 2148) = A)
    (k53 : ∀ w, Calls Try.prog 86 #[.int .u64 ((p.mant : Nat) : Int), .int .u64 ((q.mant : Nat) : Int)] w fun e w' => e = .returned (.tuple #[.int .u64 ((H : Nat) : Int), .int .u64 ((L : Nat) : Int)]) ∧ w' = w) (PD : Ending → World → Prop) (k54 : Calls Try.prog 87 #[.pointer (some ⟨b, 0, none⟩), .int .u64 ((H : Nat) : Int), .int .u64 ((L : Nat) : Int), .int .i64 A, .bool sn] w1 PD) (hPD : ∀ e w', PD e w' → e = .returned (.tuple #[]))
    (hK : Hid (∀ a w2, PD (.returned (.tuple #[])) w2 → At 101 [(0, .pointer (some ⟨b, 0, none⟩)), (8, .bool sn), (9, .bool false)] a → Code.wp Try.prog (sq 5 body40) Q a w2)) (ha : At 101 [(0, .pointer (some ⟨b, 0, none⟩)), (6, .pointer (some ⟨g1, 0, none⟩)), (7, .pointer (some ⟨g2, 0, none⟩)), (8, .bool sn), (9, .bool false), (10, .bool false)] a) : Code.wp Try.prog (sq 4 body40) Q a w1 := by
  have cp0 : w1.cell? ⟨g1, 0, none⟩ = some (.int .i64 p.kind) := cell_of_row _ _ 0 _ _ _ h1
  have cp1 : w1.cell? ⟨g1, 1, none⟩ = some (.bool p.neg) := cell_of_row _ _ 1 _ _ _ h1
  have cp2 : w1.cell? ⟨g1, 2, none⟩ = some (.int .u64 ((p.mant : Nat) : Int)) := cell_of_row _ _ 2 _ _ _ h1
  have cp3 : w1.cell? ⟨g1, 3, none⟩ = some (.int .i64 p.exp) := cell_of_row _ _ 3 _ _ _ h1
  have cq0 : w1.cell? ⟨g2, 0, none⟩ = some (.int .i64 q.kind) := cell_of_row _ _ 0 _ _ _ h2
  have cq1 : w1.cell? ⟨g2, 1, none⟩ = some (.bool q.neg) := cell_of_row _ _ 1 _ _ _ h2
  have cq2 : w1.cell? ⟨g2, 2, none⟩ = some (.int .u64 ((q.mant : Nat) : Int)) := cell_of_row _ _ 2 _ _ _ h2
  have cq3 : w1.cell? ⟨g2, 3, none⟩ = some (.int .i64 q.exp) := cell_of_row _ _ 3 _ _ _ h2
  obtain ⟨f, rfl, h0, h6, h7, h8, h9, h10, -⟩ := ha.lit
  change Code.wp _ _ _ ⟨#[f 0, f 1, f 2, f 3, f 4, f 5, f 6, f 7, f 8, f 9, f 10, f 11, f 12, f 13, f 14, f 15, f 16, f 17, f 18, f 19, f 20, f 21, f 22, f 23, f 24, f 25, f 26, f 27, f 28, f 29, f 30, f 31, f 32, f 33, f 34, f 35, f 36, f 37, f 38, f 39, f 40, f 41, f 42, f 43, f 44, f 45, f 46, f 47, f 48, f 49, f 50, f 51, f 52, f 53, f 54, f 55, f 56, f 57, f 58, f 59, f 60, f 61, f 62, f 63, f 64, f 65, f 66, f 67, f 68, f 69, f 70, f 71, f 72, f 73, f 74, f 75, f 76, f 77, f 78, f 79, f 80, f 81, f 82, f 83, f 84, f 85, f 86, f 87, f 88, f 89, f 90, f 91, f 92, f 93, f 94, f 95, f 96, f 97, f 98, f 99, f 100], []⟩ _
  simp only at h0 h6 h7 h8 h9 h10
  simp only [h0, h6, h7, h8, h9, h10]
  clear h0 h6 h7 h8 h9 h10
  change Code.wp _ (Code.seq (hd (sq 4 body40)) (sq 5 body40)) _ _ _
  generalize sq 5 body40 = REST at hK ⊢
  conv => arg 2; arg 1; whnf
  clear h1 h2
  have K54 : Hid (Calls Try.prog 87 #[.pointer (some ⟨b, 0, none⟩), .int .u64 ((H : Nat) : Int), .int .u64 ((L : Nat) : Int), .int .i64 A, .bool sn] w1 PD) := k54
  clear k54
  go_wp2_with fail
  refine (k53 _).mono ?_
  rintro e w2 ⟨rfl, rfl⟩
  go_wp2_with fail
  refine Calls.mono K54.out ?_
  intro e w3 hp
  have := hPD e w3 hp
  subst this
  have HP : Hid (PD (.returned (.tuple #[])) w3) := hp
  clear hp
  go_wp2
  exact hK.out _ _ HP.out ⟨rfl, rfl, rfl, rfl, rfl, trivial⟩
set_option maxRecDepth 100000 in
set_option maxHeartbeats 2000000 in
theorem ad_e {Q : Ending → World → Prop} (b : Nat) (sn nt : Bool) (a : Act) (w1 : World) (v1 v2 : Value) (c69 : w1.cell? ⟨b, 69, none⟩ = some v1) (f69 : w1.frozen? ⟨b, 69, none⟩ = false) (c70 : w1.cell? ⟨b, 70, none⟩ = some v2) (f70 : w1.frozen? ⟨b, 70, none⟩ = false)
    (hK : Hid (Q (.returned (.tuple #[])) (if (nt && sn) = true then w1.setCell ⟨b, 69, none⟩ (.bool true) else w1.setCell ⟨b, 70, none⟩ (.bool true)))) (ha : At 101 [(0, .pointer (some ⟨b, 0, none⟩)), (8, .bool sn), (9, .bool nt)] a) : Code.wp Try.prog (sq 5 body40) (bodyPost Try.prog Try.f51 Q) a w1 := by
  obtain ⟨f, rfl, h0, h8, h9, -⟩ := ha.lit
  change Code.wp _ _ _ ⟨#[f 0, f 1, f 2, f 3, f 4, f 5, f 6, f 7, f 8, f 9, f 10, f 11, f 12, f 13, f 14, f 15, f 16, f 17, f 18, f 19, f 20, f 21, f 22, f 23, f 24, f 25, f 26, f 27, f 28, f 29, f 30, f 31, f 32, f 33, f 34, f 35, f 36, f 37, f 38, f 39, f 40, f 41, f 42, f 43, f 44, f 45, f 46, f 47, f 48, f 49, f 50, f 51, f 52, f 53, f 54, f 55, f 56, f 57, f 58, f 59, f 60, f 61, f 62, f 63, f 64, f 65, f 66, f 67, f 68, f 69, f 70, f 71, f 72, f 73, f 74, f 75, f 76, f 77, f 78, f 79, f 80, f 81, f 82, f 83, f 84, f 85, f 86, f 87, f 88, f 89, f 90, f 91, f 92, f 93, f 94, f 95, f 96, f 97, f 98, f 99, f 100], []⟩ _
  simp only at h0 h8 h9
  simp only [h0, h8, h9]
  clear h0 h8 h9
  conv => arg 2; whnf
  cases nt
  · go_wp2
    exact bodyPost_end (results_none rfl _ _ _) rfl hK.out
  · cases sn
    · go_wp2
      exact bodyPost_end (results_none rfl _ _ _) rfl hK.out
    · go_wp2
      exact bodyPost_end (results_none rfl _ _ _) rfl hK.out
end Go.Proofs.Ytdhfkdopcphjlab
