/-
  What the statement of Minimum, Maximum and Least asks, walked: a round of its first loop. Conditions: the floats' bits fit; the list takes no more bytes than there are.
-/
import Derived.Test.YtjcjecbffnadaaaMx
import Derived.Test.YtjcjecbffnadaaaOq
import Derived.Test.YtjcjecbffnadaaaSs
import Derived.Deep.LoopGhost
import Derived.OwnWalk
import Derived.BigRegion
import Derived.Maps.AppendAt
import Derived.Deep.DeepMust
namespace Go.Proofs.Ytjcjecbffnadaaa
open Go.RowKit
noncomputable def body7 : Code := Try.f7.body.getD .skip
/-- The last loop's body. -/
def loopOf : Code → Code
  | .loop c => c
  | .block _ c => loopOf c
  | .seq _ b => loopOf b
  | c => c
def blk : Code → Code
  | .block _ c => c
  | c => c
noncomputable def loop7 : Code := loopOf (hd (sq 5 body7))
noncomputable def in7 : Code := blk (hd (sq 2 loop7))
theorem info25 : (Try.prog.info? 25).map (fun i => (i.zero, i.size, i.bytes)) = some (some (.float .f64 0), 1, 8) := by kernel_rfl
set_option maxRecDepth 100000 in
set_option maxHeartbeats 2000000 in
theorem x7_a {Q : Exit → Act → World → Prop} (x best b n k pl g off c0 base : Nat) (vl : Value) (xs : List Value) (a : Act) (w : World) (hk : (k : Int) < (n : Int)) (hn : (n : Int) ≤ 17592186044416) (hxl : xs.length = k) (hbase : base ≤ w.heap.size) (hcell : w.cell? ⟨g, off + k, none⟩ = some (.int .u64 (b : Int))) (hown : Hid (w.ownsRow base 25 1 vl k xs))
    (hK : Hid (∀ a w' vl, Below base w w' → w'.ownsRow base 25 1 vl (k + 1) (xs ++ [.float .f64 b]) → At 128 [(0, .int .u64 (x : Int)), (1, .slice (some ⟨g, off, none⟩) n c0), (5, .float .f64 x), (6, vl), (7, .int .u64 (best : Int)), (8, .int .i64 (pl : Nat)), (9, .int .i64 (k : Nat)), (10, .int .u64 (b : Int)), (11, .float .f64 b), (25, .slice (some ⟨g, off, none⟩) n c0), (26, .int .i64 (n : Nat)), (27, .int .i64 (k : Nat))] a → Code.wp Try.prog (sq 3 in7) Q a w')) (ha : At 128 [(0, .int .u64 (x : Int)), (1, .slice (some ⟨g, off, none⟩) n c0), (5, .float .f64 x), (6, vl), (7, .int .u64 (best : Int)), (8, .int .i64 (pl : Nat)), (25, .slice (some ⟨g, off, none⟩) n c0), (26, .int .i64 (n : Nat)), (27, .int .i64 (k : Nat))] a) : Code.wp Try.prog in7 Q a w := by
  obtain ⟨i0, hi, hz0, hz1, hz2⟩ := info_parts info25
  have x10 := ext10
  have hcn := cell_one_new w (.float .f64 b) 25
  obtain ⟨f, rfl, h0, h1, h5, h6, h7, h8, h25, h26, h27, -⟩ := ha.lit
  change Code.wp _ _ _ ⟨#[f 0, f 1, f 2, f 3, f 4, f 5, f 6, f 7, f 8, f 9, f 10, f 11, f 12, f 13, f 14, f 15, f 16, f 17, f 18, f 19, f 20, f 21, f 22, f 23, f 24, f 25, f 26, f 27, f 28, f 29, f 30, f 31, f 32, f 33, f 34, f 35, f 36, f 37, f 38, f 39, f 40, f 41, f 42, f 43, f 44, f 45, f 46, f 47, f 48, f 49, f 50, f 51, f 52, f 53, f 54, f 55, f 56, f 57, f 58, f 59, f 60, f 61, f 62, f 63, f 64, f 65, f 66, f 67, f 68, f 69, f 70, f 71, f 72, f 73, f 74, f 75, f 76, f 77, f 78, f 79, f 80, f 81, f 82, f 83, f 84, f 85, f 86, f 87, f 88, f 89, f 90, f 91, f 92, f 93, f 94, f 95, f 96, f 97, f 98, f 99, f 100, f 101, f 102, f 103, f 104, f 105, f 106, f 107, f 108, f 109, f 110, f 111, f 112, f 113, f 114, f 115, f 116, f 117, f 118, f 119, f 120, f 121, f 122, f 123, f 124, f 125, f 126, f 127], []⟩ _
  simp only at h0 h1 h5 h6 h7 h8 h25 h26 h27
  simp only [h0, h1, h5, h6, h7, h8, h25, h26, h27]
  clear h0 h1 h5 h6 h7 h8 h25 h26 h27
  change Code.wp _ (sq 0 in7) _ _ _
  change Code.wp _ (Code.seq (hd (sq 0 in7)) (Code.seq (hd (sq 1 in7)) (Code.seq (hd (sq 2 in7)) (sq 3 in7)))) _ _ _
  generalize sq 3 in7 = REST at hK ⊢
  conv => arg 2; arg 1; whnf
  conv => arg 2; arg 2; arg 1; whnf
  conv => arg 2; arg 2; arg 2; arg 1; whnf
  go_wp2_with (at_builtin; go_must (refine wpList_append_own _ rfl _ _ 61 rfl base 25 i0 (.float .f64 0) 1 8 Try.underlying61 hi hz0 hz1 hz2 rfl (by decide) _ _ _ rfl (hown.out.alloc _) ⟨_, 0, none⟩ 1 1 [.float .f64 b] rfl rfl hcn (by simp [Value.oneCell']) (by unfold maxLen; omega) (by omega) (by simp; omega) ?_))
  intro v' w1 hown' hgrow _
  have B1 : Hid (Below base w w1) := ((Below.refl _ _).alloc hbase _).grown hgrow (by simp; omega) (fun j hj => (hown.out.lt j hj).1)
  have O1 := show Hid _ from hown'
  clear hgrow hown'
  go_wp2
  exact hK.out _ _ _ B1.out O1.out ⟨rfl, rfl, rfl, rfl, rfl, rfl, rfl, rfl, rfl, rfl, rfl, rfl, rfl, rfl, trivial⟩
set_option maxRecDepth 100000 in
set_option maxHeartbeats 2000000 in
theorem x7_by {Q : Exit → Act → World → Prop} (x best b n k pl : Nat) (vm vl : Value) (a : Act) (w : World) (kb km : Int) (hk9 : (k : Int) ≤ 17592186044416) (k1 : ∀ w, Calls Try.prog 30 #[.int .u64 (b : Int)] w fun e w' => e = .returned (.int .i64 kb) ∧ w' = w) (k2 : ∀ w, Calls Try.prog 30 #[.int .u64 (best : Int)] w fun e w' => e = .returned (.int .i64 km) ∧ w' = w) (h : decide (kb < km) = true)
    (hK : Hid (∀ a, At 128 [(0, .int .u64 (x : Int)), (1, vm), (5, .float .f64 x), (6, vl), (7, .int .u64 (b : Int)), (8, .int .i64 (k + 1 : Nat)), (9, .int .i64 (k : Nat)), (10, .int .u64 (b : Int)), (11, .float .f64 b), (25, vm), (26, .int .i64 (n : Nat)), (27, .int .i64 (k : Nat))] a → Code.wp Try.prog (sq 4 in7) Q a w)) (ha : At 128 [(0, .int .u64 (x : Int)), (1, vm), (5, .float .f64 x), (6, vl), (7, .int .u64 (best : Int)), (8, .int .i64 (pl : Nat)), (9, .int .i64 (k : Nat)), (10, .int .u64 (b : Int)), (11, .float .f64 b), (25, vm), (26, .int .i64 (n : Nat)), (27, .int .i64 (k : Nat))] a) : Code.wp Try.prog (sq 3 in7) Q a w := by
  obtain ⟨f, rfl, h0, h1, h5, h6, h7, h8, h9, h10, h11, h25, h26, h27, -⟩ := ha.lit
  change Code.wp _ _ _ ⟨#[f 0, f 1, f 2, f 3, f 4, f 5, f 6, f 7, f 8, f 9, f 10, f 11, f 12, f 13, f 14, f 15, f 16, f 17, f 18, f 19, f 20, f 21, f 22, f 23, f 24, f 25, f 26, f 27, f 28, f 29, f 30, f 31, f 32, f 33, f 34, f 35, f 36, f 37, f 38, f 39, f 40, f 41, f 42, f 43, f 44, f 45, f 46, f 47, f 48, f 49, f 50, f 51, f 52, f 53, f 54, f 55, f 56, f 57, f 58, f 59, f 60, f 61, f 62, f 63, f 64, f 65, f 66, f 67, f 68, f 69, f 70, f 71, f 72, f 73, f 74, f 75, f 76, f 77, f 78, f 79, f 80, f 81, f 82, f 83, f 84, f 85, f 86, f 87, f 88, f 89, f 90, f 91, f 92, f 93, f 94, f 95, f 96, f 97, f 98, f 99, f 100, f 101, f 102, f 103, f 104, f 105, f 106, f 107, f 108, f 109, f 110, f 111, f 112, f 113, f 114, f 115, f 116, f 117, f 118, f 119, f 120, f 121, f 122, f 123, f 124, f 125, f 126, f 127], []⟩ _
  simp only at h0 h1 h5 h6 h7 h8 h9 h10 h11 h25 h26 h27
  simp only [h0, h1, h5, h6, h7, h8, h9, h10, h11, h25, h26, h27]
  clear h0 h1 h5 h6 h7 h8 h9 h10 h11 h25 h26 h27
  change Code.wp _ (Code.seq (hd (sq 3 in7)) (sq 4 in7)) _ _ _
  generalize sq 4 in7 = REST at hK ⊢
  conv => arg 2; arg 1; whnf
  go_wp2_with (go_at_call 30; refine (k1 _).mono ?_)
  intro e1 w1 hq
  first | (obtain ⟨rfl, rfl⟩ : _ ∧ _ := hq) | (subst hq; rintro rfl)
  go_wp2_with (go_at_call 30; refine (k2 _).mono ?_)
  intro e2 w2 hq
  first | (obtain ⟨rfl, rfl⟩ : _ ∧ _ := hq) | (subst hq; rintro rfl)
  go_wp2
  exact hK.out _ ⟨rfl, rfl, rfl, rfl, rfl, rfl, rfl, rfl, rfl, rfl, rfl, rfl, rfl, rfl, trivial⟩
set_option maxRecDepth 100000 in
set_option maxHeartbeats 2000000 in
theorem x7_bn {Q : Exit → Act → World → Prop} (x best b n k pl : Nat) (vm vl : Value) (a : Act) (w : World) (kb km : Int) (_hk9 : (k : Int) ≤ 17592186044416) (k1 : ∀ w, Calls Try.prog 30 #[.int .u64 (b : Int)] w fun e w' => e = .returned (.int .i64 kb) ∧ w' = w) (k2 : ∀ w, Calls Try.prog 30 #[.int .u64 (best : Int)] w fun e w' => e = .returned (.int .i64 km) ∧ w' = w) (h : decide (kb < km) = false)
    (hK : Hid (∀ a, At 128 [(0, .int .u64 (x : Int)), (1, vm), (5, .float .f64 x), (6, vl), (7, .int .u64 (best : Int)), (8, .int .i64 (pl : Nat)), (9, .int .i64 (k : Nat)), (10, .int .u64 (b : Int)), (11, .float .f64 b), (25, vm), (26, .int .i64 (n : Nat)), (27, .int .i64 (k : Nat))] a → Code.wp Try.prog (sq 4 in7) Q a w)) (ha : At 128 [(0, .int .u64 (x : Int)), (1, vm), (5, .float .f64 x), (6, vl), (7, .int .u64 (best : Int)), (8, .int .i64 (pl : Nat)), (9, .int .i64 (k : Nat)), (10, .int .u64 (b : Int)), (11, .float .f64 b), (25, vm), (26, .int .i64 (n : Nat)), (27, .int .i64 (k : Nat))] a) : Code.wp Try.prog (sq 3 in7) Q a w := by
  obtain ⟨f, rfl, h0, h1, h5, h6, h7, h8, h9, h10, h11, h25, h26, h27, -⟩ := ha.lit
  change Code.wp _ _ _ ⟨#[f 0, f 1, f 2, f 3, f 4, f 5, f 6, f 7, f 8, f 9, f 10, f 11, f 12, f 13, f 14, f 15, f 16, f 17, f 18, f 19, f 20, f 21, f 22, f 23, f 24, f 25, f 26, f 27, f 28, f 29, f 30, f 31, f 32, f 33, f 34, f 35, f 36, f 37, f 38, f 39, f 40, f 41, f 42, f 43, f 44, f 45, f 46, f 47, f 48, f 49, f 50, f 51, f 52, f 53, f 54, f 55, f 56, f 57, f 58, f 59, f 60, f 61, f 62, f 63, f 64, f 65, f 66, f 67, f 68, f 69, f 70, f 71, f 72, f 73, f 74, f 75, f 76, f 77, f 78, f 79, f 80, f 81, f 82, f 83, f 84, f 85, f 86, f 87, f 88, f 89, f 90, f 91, f 92, f 93, f 94, f 95, f 96, f 97, f 98, f 99, f 100, f 101, f 102, f 103, f 104, f 105, f 106, f 107, f 108, f 109, f 110, f 111, f 112, f 113, f 114, f 115, f 116, f 117, f 118, f 119, f 120, f 121, f 122, f 123, f 124, f 125, f 126, f 127], []⟩ _
  simp only at h0 h1 h5 h6 h7 h8 h9 h10 h11 h25 h26 h27
  simp only [h0, h1, h5, h6, h7, h8, h9, h10, h11, h25, h26, h27]
  clear h0 h1 h5 h6 h7 h8 h9 h10 h11 h25 h26 h27
  change Code.wp _ (Code.seq (hd (sq 3 in7)) (sq 4 in7)) _ _ _
  generalize sq 4 in7 = REST at hK ⊢
  conv => arg 2; arg 1; whnf
  go_wp2_with (go_at_call 30; refine (k1 _).mono ?_)
  intro e1 w1 hq
  first | (obtain ⟨rfl, rfl⟩ : _ ∧ _ := hq) | (subst hq; rintro rfl)
  go_wp2_with (go_at_call 30; refine (k2 _).mono ?_)
  intro e2 w2 hq
  first | (obtain ⟨rfl, rfl⟩ : _ ∧ _ := hq) | (subst hq; rintro rfl)
  go_wp2
  exact hK.out _ ⟨rfl, rfl, rfl, rfl, rfl, rfl, rfl, rfl, rfl, rfl, rfl, rfl, rfl, rfl, trivial⟩
set_option maxRecDepth 100000 in
set_option maxHeartbeats 2000000 in
theorem x7_c {Q : Exit → Act → World → Prop} (x best b n k pl : Nat) (vm vl : Value) (a : Act) (w : World) (lo hi : Nat) (k1 : ∀ w, Calls Try.prog 33 #[.float .f64 x, .float .f64 b] w fun e w' => e = .returned (.float .f64 lo) ∧ Below w.heap.size w w') (k2 : ∀ w, Calls Try.prog 34 #[.float .f64 x, .float .f64 b] w fun e w' => e = .returned (.float .f64 hi) ∧ Below w.heap.size w w')
    (hK : Hid (∀ a w', Below w.heap.size w w' → At 128 [(0, .int .u64 (x : Int)), (1, vm), (5, .float .f64 x), (6, vl), (7, .int .u64 (best : Int)), (8, .int .i64 (pl : Nat)), (9, .int .i64 (k : Nat)), (10, .int .u64 (b : Int)), (11, .float .f64 b), (25, vm), (26, .int .i64 (n : Nat)), (27, .int .i64 (k : Nat)), (12, .float .f64 lo), (13, .float .f64 hi)] a → Code.wp Try.prog (sq 5 in7) Q a w')) (ha : At 128 [(0, .int .u64 (x : Int)), (1, vm), (5, .float .f64 x), (6, vl), (7, .int .u64 (best : Int)), (8, .int .i64 (pl : Nat)), (9, .int .i64 (k : Nat)), (10, .int .u64 (b : Int)), (11, .float .f64 b), (25, vm), (26, .int .i64 (n : Nat)), (27, .int .i64 (k : Nat))] a) : Code.wp Try.prog (sq 4 in7) Q a w := by
  obtain ⟨f, rfl, h0, h1, h5, h6, h7, h8, h9, h10, h11, h25, h26, h27, -⟩ := ha.lit
  change Code.wp _ _ _ ⟨#[f 0, f 1, f 2, f 3, f 4, f 5, f 6, f 7, f 8, f 9, f 10, f 11, f 12, f 13, f 14, f 15, f 16, f 17, f 18, f 19, f 20, f 21, f 22, f 23, f 24, f 25, f 26, f 27, f 28, f 29, f 30, f 31, f 32, f 33, f 34, f 35, f 36, f 37, f 38, f 39, f 40, f 41, f 42, f 43, f 44, f 45, f 46, f 47, f 48, f 49, f 50, f 51, f 52, f 53, f 54, f 55, f 56, f 57, f 58, f 59, f 60, f 61, f 62, f 63, f 64, f 65, f 66, f 67, f 68, f 69, f 70, f 71, f 72, f 73, f 74, f 75, f 76, f 77, f 78, f 79, f 80, f 81, f 82, f 83, f 84, f 85, f 86, f 87, f 88, f 89, f 90, f 91, f 92, f 93, f 94, f 95, f 96, f 97, f 98, f 99, f 100, f 101, f 102, f 103, f 104, f 105, f 106, f 107, f 108, f 109, f 110, f 111, f 112, f 113, f 114, f 115, f 116, f 117, f 118, f 119, f 120, f 121, f 122, f 123, f 124, f 125, f 126, f 127], []⟩ _
  simp only at h0 h1 h5 h6 h7 h8 h9 h10 h11 h25 h26 h27
  simp only [h0, h1, h5, h6, h7, h8, h9, h10, h11, h25, h26, h27]
  clear h0 h1 h5 h6 h7 h8 h9 h10 h11 h25 h26 h27
  change Code.wp _ (Code.seq (hd (sq 4 in7)) (sq 5 in7)) _ _ _
  generalize sq 5 in7 = REST at hK ⊢
  conv => arg 2; arg 1; whnf
  go_wp2_with (go_at_call 33; refine (k1 _).mono ?_)
  intro e1 w1 hq
  first | (obtain ⟨rfl, b1⟩ : _ ∧ _ := hq) | (subst hq; intro b1)
  go_wp2_with (go_at_call 34; refine (k2 _).mono ?_)
  intro e2 w2 hq
  first | (obtain ⟨rfl, b2⟩ : _ ∧ _ := hq) | (subst hq; intro b2)
  have B1 : Hid (Below w.heap.size w w2) := b1.trans (b2.mono b1.size)
  clear b1 b2
  go_wp2
  exact hK.out _ _ B1.out ⟨rfl, rfl, rfl, rfl, rfl, rfl, rfl, rfl, rfl, rfl, rfl, rfl, rfl, rfl, rfl, rfl, trivial⟩
set_option maxRecDepth 100000 in
set_option maxHeartbeats 2000000 in
theorem x7_d1 {Q : Exit → Act → World → Prop} (x best b n k pl : Nat) (vm vl : Value) (a : Act) (w : World) (lo hi : Nat) (h1 : (FloatKind.f64.format.order x x != some .eq) = true) (hl : (FloatKind.f64.format.order lo lo == some .eq) = false) (hh : (FloatKind.f64.format.order hi hi == some .eq) = false)
    (hE : Hid (∀ a, At 128 [(0, .int .u64 (x : Int)), (1, vm), (5, .float .f64 x), (6, vl), (7, .int .u64 (best : Int)), (8, .int .i64 (pl : Nat)), (25, vm), (26, .int .i64 (n : Nat)), (27, .int .i64 (k : Nat))] a → Q (.exit 1) a w)) (ha : At 128 [(0, .int .u64 (x : Int)), (1, vm), (5, .float .f64 x), (6, vl), (7, .int .u64 (best : Int)), (8, .int .i64 (pl : Nat)), (9, .int .i64 (k : Nat)), (10, .int .u64 (b : Int)), (11, .float .f64 b), (25, vm), (26, .int .i64 (n : Nat)), (27, .int .i64 (k : Nat)), (12, .float .f64 lo), (13, .float .f64 hi)] a) : Code.wp Try.prog (sq 5 in7) Q a w := by
  obtain ⟨f, rfl, h0, h1, h5, h6, h7, h8, h9, h10, h11, h25, h26, h27, h12, h13, -⟩ := ha.lit
  change Code.wp _ _ _ ⟨#[f 0, f 1, f 2, f 3, f 4, f 5, f 6, f 7, f 8, f 9, f 10, f 11, f 12, f 13, f 14, f 15, f 16, f 17, f 18, f 19, f 20, f 21, f 22, f 23, f 24, f 25, f 26, f 27, f 28, f 29, f 30, f 31, f 32, f 33, f 34, f 35, f 36, f 37, f 38, f 39, f 40, f 41, f 42, f 43, f 44, f 45, f 46, f 47, f 48, f 49, f 50, f 51, f 52, f 53, f 54, f 55, f 56, f 57, f 58, f 59, f 60, f 61, f 62, f 63, f 64, f 65, f 66, f 67, f 68, f 69, f 70, f 71, f 72, f 73, f 74, f 75, f 76, f 77, f 78, f 79, f 80, f 81, f 82, f 83, f 84, f 85, f 86, f 87, f 88, f 89, f 90, f 91, f 92, f 93, f 94, f 95, f 96, f 97, f 98, f 99, f 100, f 101, f 102, f 103, f 104, f 105, f 106, f 107, f 108, f 109, f 110, f 111, f 112, f 113, f 114, f 115, f 116, f 117, f 118, f 119, f 120, f 121, f 122, f 123, f 124, f 125, f 126, f 127], []⟩ _
  simp only at h0 h1 h5 h6 h7 h8 h9 h10 h11 h25 h26 h27 h12 h13
  simp only [h0, h1, h5, h6, h7, h8, h9, h10, h11, h25, h26, h27, h12, h13]
  clear h0 h1 h5 h6 h7 h8 h9 h10 h11 h25 h26 h27 h12 h13
  conv => arg 2; whnf
  go_wp2
  exact hE.out _ ⟨rfl, rfl, rfl, rfl, rfl, rfl, rfl, rfl, rfl, rfl, rfl, trivial⟩
set_option maxRecDepth 100000 in
set_option maxHeartbeats 2000000 in
theorem x7_d2 {Q : Exit → Act → World → Prop} (x best b n k pl : Nat) (vm vl : Value) (a : Act) (w : World) (lo hi : Nat) (h1 : (FloatKind.f64.format.order x x != some .eq) = false) (h2 : (FloatKind.f64.format.order b b != some .eq) = true) (hl : (FloatKind.f64.format.order lo lo == some .eq) = false) (hh : (FloatKind.f64.format.order hi hi == some .eq) = false)
    (hE : Hid (∀ a, At 128 [(0, .int .u64 (x : Int)), (1, vm), (5, .float .f64 x), (6, vl), (7, .int .u64 (best : Int)), (8, .int .i64 (pl : Nat)), (25, vm), (26, .int .i64 (n : Nat)), (27, .int .i64 (k : Nat))] a → Q (.exit 1) a w)) (ha : At 128 [(0, .int .u64 (x : Int)), (1, vm), (5, .float .f64 x), (6, vl), (7, .int .u64 (best : Int)), (8, .int .i64 (pl : Nat)), (9, .int .i64 (k : Nat)), (10, .int .u64 (b : Int)), (11, .float .f64 b), (25, vm), (26, .int .i64 (n : Nat)), (27, .int .i64 (k : Nat)), (12, .float .f64 lo), (13, .float .f64 hi)] a) : Code.wp Try.prog (sq 5 in7) Q a w := by
  obtain ⟨f, rfl, h0, h1, h5, h6, h7, h8, h9, h10, h11, h25, h26, h27, h12, h13, -⟩ := ha.lit
  change Code.wp _ _ _ ⟨#[f 0, f 1, f 2, f 3, f 4, f 5, f 6, f 7, f 8, f 9, f 10, f 11, f 12, f 13, f 14, f 15, f 16, f 17, f 18, f 19, f 20, f 21, f 22, f 23, f 24, f 25, f 26, f 27, f 28, f 29, f 30, f 31, f 32, f 33, f 34, f 35, f 36, f 37, f 38, f 39, f 40, f 41, f 42, f 43, f 44, f 45, f 46, f 47, f 48, f 49, f 50, f 51, f 52, f 53, f 54, f 55, f 56, f 57, f 58, f 59, f 60, f 61, f 62, f 63, f 64, f 65, f 66, f 67, f 68, f 69, f 70, f 71, f 72, f 73, f 74, f 75, f 76, f 77, f 78, f 79, f 80, f 81, f 82, f 83, f 84, f 85, f 86, f 87, f 88, f 89, f 90, f 91, f 92, f 93, f 94, f 95, f 96, f 97, f 98, f 99, f 100, f 101, f 102, f 103, f 104, f 105, f 106, f 107, f 108, f 109, f 110, f 111, f 112, f 113, f 114, f 115, f 116, f 117, f 118, f 119, f 120, f 121, f 122, f 123, f 124, f 125, f 126, f 127], []⟩ _
  simp only at h0 h1 h5 h6 h7 h8 h9 h10 h11 h25 h26 h27 h12 h13
  simp only [h0, h1, h5, h6, h7, h8, h9, h10, h11, h25, h26, h27, h12, h13]
  clear h0 h1 h5 h6 h7 h8 h9 h10 h11 h25 h26 h27 h12 h13
  conv => arg 2; whnf
  go_wp2
  exact hE.out _ ⟨rfl, rfl, rfl, rfl, rfl, rfl, rfl, rfl, rfl, rfl, rfl, trivial⟩
set_option maxRecDepth 100000 in
set_option maxHeartbeats 2000000 in
theorem x7_ey {Q : Exit → Act → World → Prop} (x best b n k pl : Nat) (vm vl : Value) (a : Act) (w : World) (kx km : Int) (h1 : (FloatKind.f64.format.order x x != some .eq) = false) (h2 : (FloatKind.f64.format.order b b != some .eq) = false) (k1 : ∀ w, Calls Try.prog 30 #[.int .u64 (x : Int)] w fun e w' => e = .returned (.int .i64 kx) ∧ w' = w) (k2 : ∀ w, Calls Try.prog 30 #[.int .u64 (b : Int)] w fun e w' => e = .returned (.int .i64 km) ∧ w' = w) (h : decide (km < kx) = true)
    (hN : Hid (∀ a, At 128 [(0, .int .u64 (x : Int)), (1, vm), (5, .float .f64 x), (6, vl), (7, .int .u64 (best : Int)), (8, .int .i64 (pl : Nat)), (25, vm), (26, .int .i64 (n : Nat)), (27, .int .i64 (k : Nat))] a → Q .normal a w)) (ha : At 128 [(0, .int .u64 (x : Int)), (1, vm), (5, .float .f64 x), (6, vl), (7, .int .u64 (best : Int)), (8, .int .i64 (pl : Nat)), (9, .int .i64 (k : Nat)), (10, .int .u64 (b : Int)), (11, .float .f64 b), (25, vm), (26, .int .i64 (n : Nat)), (27, .int .i64 (k : Nat)), (12, .float .f64 b), (13, .float .f64 x)] a) : Code.wp Try.prog (sq 5 in7) Q a w := by
  have x20 := ext20
  obtain ⟨f, rfl, h0, h1, h5, h6, h7, h8, h9, h10, h11, h25, h26, h27, h12, h13, -⟩ := ha.lit
  change Code.wp _ _ _ ⟨#[f 0, f 1, f 2, f 3, f 4, f 5, f 6, f 7, f 8, f 9, f 10, f 11, f 12, f 13, f 14, f 15, f 16, f 17, f 18, f 19, f 20, f 21, f 22, f 23, f 24, f 25, f 26, f 27, f 28, f 29, f 30, f 31, f 32, f 33, f 34, f 35, f 36, f 37, f 38, f 39, f 40, f 41, f 42, f 43, f 44, f 45, f 46, f 47, f 48, f 49, f 50, f 51, f 52, f 53, f 54, f 55, f 56, f 57, f 58, f 59, f 60, f 61, f 62, f 63, f 64, f 65, f 66, f 67, f 68, f 69, f 70, f 71, f 72, f 73, f 74, f 75, f 76, f 77, f 78, f 79, f 80, f 81, f 82, f 83, f 84, f 85, f 86, f 87, f 88, f 89, f 90, f 91, f 92, f 93, f 94, f 95, f 96, f 97, f 98, f 99, f 100, f 101, f 102, f 103, f 104, f 105, f 106, f 107, f 108, f 109, f 110, f 111, f 112, f 113, f 114, f 115, f 116, f 117, f 118, f 119, f 120, f 121, f 122, f 123, f 124, f 125, f 126, f 127], []⟩ _
  simp only at h0 h1 h5 h6 h7 h8 h9 h10 h11 h25 h26 h27 h12 h13
  simp only [h0, h1, h5, h6, h7, h8, h9, h10, h11, h25, h26, h27, h12, h13]
  clear h0 h1 h5 h6 h7 h8 h9 h10 h11 h25 h26 h27 h12 h13
  conv => arg 2; whnf
  go_wp2_with (go_at_call 30; refine (k1 _).mono ?_)
  intro e1 w1 hq
  first | (obtain ⟨rfl, rfl⟩ : _ ∧ _ := hq) | (subst hq; rintro rfl)
  go_wp2_with (go_at_call 30; refine (k2 _).mono ?_)
  intro e2 w2 hq
  first | (obtain ⟨rfl, rfl⟩ : _ ∧ _ := hq) | (subst hq; rintro rfl)
  go_wp2
  exact hN.out _ ⟨rfl, rfl, rfl, rfl, rfl, rfl, rfl, rfl, rfl, rfl, rfl, trivial⟩
set_option maxRecDepth 100000 in
set_option maxHeartbeats 2000000 in
theorem x7_en {Q : Exit → Act → World → Prop} (x best b n k pl : Nat) (vm vl : Value) (a : Act) (w : World) (kx km : Int) (h1 : (FloatKind.f64.format.order x x != some .eq) = false) (h2 : (FloatKind.f64.format.order b b != some .eq) = false) (k1 : ∀ w, Calls Try.prog 30 #[.int .u64 (x : Int)] w fun e w' => e = .returned (.int .i64 kx) ∧ w' = w) (k2 : ∀ w, Calls Try.prog 30 #[.int .u64 (b : Int)] w fun e w' => e = .returned (.int .i64 km) ∧ w' = w) (h : decide (km < kx) = false)
    (hN : Hid (∀ a, At 128 [(0, .int .u64 (x : Int)), (1, vm), (5, .float .f64 x), (6, vl), (7, .int .u64 (best : Int)), (8, .int .i64 (pl : Nat)), (25, vm), (26, .int .i64 (n : Nat)), (27, .int .i64 (k : Nat))] a → Q .normal a w)) (ha : At 128 [(0, .int .u64 (x : Int)), (1, vm), (5, .float .f64 x), (6, vl), (7, .int .u64 (best : Int)), (8, .int .i64 (pl : Nat)), (9, .int .i64 (k : Nat)), (10, .int .u64 (b : Int)), (11, .float .f64 b), (25, vm), (26, .int .i64 (n : Nat)), (27, .int .i64 (k : Nat)), (12, .float .f64 x), (13, .float .f64 b)] a) : Code.wp Try.prog (sq 5 in7) Q a w := by
  have x20 := ext20
  obtain ⟨f, rfl, h0, h1, h5, h6, h7, h8, h9, h10, h11, h25, h26, h27, h12, h13, -⟩ := ha.lit
  change Code.wp _ _ _ ⟨#[f 0, f 1, f 2, f 3, f 4, f 5, f 6, f 7, f 8, f 9, f 10, f 11, f 12, f 13, f 14, f 15, f 16, f 17, f 18, f 19, f 20, f 21, f 22, f 23, f 24, f 25, f 26, f 27, f 28, f 29, f 30, f 31, f 32, f 33, f 34, f 35, f 36, f 37, f 38, f 39, f 40, f 41, f 42, f 43, f 44, f 45, f 46, f 47, f 48, f 49, f 50, f 51, f 52, f 53, f 54, f 55, f 56, f 57, f 58, f 59, f 60, f 61, f 62, f 63, f 64, f 65, f 66, f 67, f 68, f 69, f 70, f 71, f 72, f 73, f 74, f 75, f 76, f 77, f 78, f 79, f 80, f 81, f 82, f 83, f 84, f 85, f 86, f 87, f 88, f 89, f 90, f 91, f 92, f 93, f 94, f 95, f 96, f 97, f 98, f 99, f 100, f 101, f 102, f 103, f 104, f 105, f 106, f 107, f 108, f 109, f 110, f 111, f 112, f 113, f 114, f 115, f 116, f 117, f 118, f 119, f 120, f 121, f 122, f 123, f 124, f 125, f 126, f 127], []⟩ _
  simp only at h0 h1 h5 h6 h7 h8 h9 h10 h11 h25 h26 h27 h12 h13
  simp only [h0, h1, h5, h6, h7, h8, h9, h10, h11, h25, h26, h27, h12, h13]
  clear h0 h1 h5 h6 h7 h8 h9 h10 h11 h25 h26 h27 h12 h13
  conv => arg 2; whnf
  go_wp2_with (go_at_call 30; refine (k1 _).mono ?_)
  intro e1 w1 hq
  first | (obtain ⟨rfl, rfl⟩ : _ ∧ _ := hq) | (subst hq; rintro rfl)
  go_wp2_with (go_at_call 30; refine (k2 _).mono ?_)
  intro e2 w2 hq
  first | (obtain ⟨rfl, rfl⟩ : _ ∧ _ := hq) | (subst hq; rintro rfl)
  go_wp2
  exact hN.out _ ⟨rfl, rfl, rfl, rfl, rfl, rfl, rfl, rfl, rfl, rfl, rfl, trivial⟩
end Go.Proofs.Ytjcjecbffnadaaa
