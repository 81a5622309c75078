/-
  The document's Rounded, piece by piece: its end. Conditions: the size's three numbers are not too great.
-/
import Derived.Test.YtjcjecbffnadaabCt
import Derived.Test.YtjcjecbffnadaabWa
import Derived.Test.YtjcjecbffnadaabRo
namespace Go.Proofs.Ytjcjecbffnadaab
open Go.RowKit
noncomputable def body37 : Code := Try.f15.body.getD .skip
set_option maxRecDepth 100000 in
set_option maxHeartbeats 2000000 in
theorem rA_false (b g : Nat) (a : Act) (w0 w : World) (B : Hid (Below w0.heap.size w0 w)) (ha : At 157 [(0, .bool false), (9, .pointer (some ⟨g, 0, none⟩)), (13, .int .u64 (b : Int))] a) :
    Code.wp Try.prog (sq 9 body37) (bodyPost Try.prog Try.f15 fun r w' => r = .returned (.int .u64 (b : Int)) ∧ Below w0.heap.size w0 w') a w := by
  obtain ⟨f, rfl, h0, h9, h13, -⟩ := ha.lit
  change Code.wp _ _ _ ⟨#[f 0, f 1, f 2, f 3, f 4, f 5, f 6, f 7, f 8, f 9, f 10, f 11, f 12, f 13, f 14, f 15, f 16, f 17, f 18, f 19, f 20, f 21, f 22, f 23, f 24, f 25, f 26, f 27, f 28, f 29, f 30, f 31, f 32, f 33, f 34, f 35, f 36, f 37, f 38, f 39, f 40, f 41, f 42, f 43, f 44, f 45, f 46, f 47, f 48, f 49, f 50, f 51, f 52, f 53, f 54, f 55, f 56, f 57, f 58, f 59, f 60, f 61, f 62, f 63, f 64, f 65, f 66, f 67, f 68, f 69, f 70, f 71, f 72, f 73, f 74, f 75, f 76, f 77, f 78, f 79, f 80, f 81, f 82, f 83, f 84, f 85, f 86, f 87, f 88, f 89, f 90, f 91, f 92, f 93, f 94, f 95, f 96, f 97, f 98, f 99, f 100, f 101, f 102, f 103, f 104, f 105, f 106, f 107, f 108, f 109, f 110, f 111, f 112, f 113, f 114, f 115, f 116, f 117, f 118, f 119, f 120, f 121, f 122, f 123, f 124, f 125, f 126, f 127, f 128, f 129, f 130, f 131, f 132, f 133, f 134, f 135, f 136, f 137, f 138, f 139, f 140, f 141, f 142, f 143, f 144, f 145, f 146, f 147, f 148, f 149, f 150, f 151, f 152, f 153, f 154, f 155, f 156], []⟩ _
  simp only at h0 h9 h13
  simp only [h0, h9, h13]
  clear h0 h9 h13
  conv => arg 2; whnf
  go_wp2
  go_ret
  exact ⟨rfl, B.out⟩
set_option maxRecDepth 100000 in
set_option maxHeartbeats 2000000 in
theorem rA_true {p : Nat} {bi : Int} {K : Nat} (b g : Nat) (b2 S : Nat) (hb2 : bits .or .u64 (b : Int) (S : Int) = (b2 : Int)) (k44 : ∀ w, Calls Try.prog 48 #[.agg #[.int .i64 p, .int .i64 K, .int .i64 bi]] w fun e w' => e = .returned (.int .u64 (S : Int)) ∧ Below w.heap.size w w') (a : Act) (w0 w : World) (B : Hid (Below w0.heap.size w0 w)) (r : Hid (w.heap[g]? = some (.cells #[.int .i64 p, .int .i64 K, .int .i64 bi] 30 (0, 0)))) (ha : At 157 [(0, .bool true), (9, .pointer (some ⟨g, 0, none⟩)), (13, .int .u64 (b : Int))] a) :
    Code.wp Try.prog (sq 9 body37) (bodyPost Try.prog Try.f15 fun r w' => r = .returned (.int .u64 (b2 : Int)) ∧ Below w0.heap.size w0 w') a w := by
  obtain ⟨f, rfl, h0, h9, h13, -⟩ := ha.lit
  change Code.wp _ _ _ ⟨#[f 0, f 1, f 2, f 3, f 4, f 5, f 6, f 7, f 8, f 9, f 10, f 11, f 12, f 13, f 14, f 15, f 16, f 17, f 18, f 19, f 20, f 21, f 22, f 23, f 24, f 25, f 26, f 27, f 28, f 29, f 30, f 31, f 32, f 33, f 34, f 35, f 36, f 37, f 38, f 39, f 40, f 41, f 42, f 43, f 44, f 45, f 46, f 47, f 48, f 49, f 50, f 51, f 52, f 53, f 54, f 55, f 56, f 57, f 58, f 59, f 60, f 61, f 62, f 63, f 64, f 65, f 66, f 67, f 68, f 69, f 70, f 71, f 72, f 73, f 74, f 75, f 76, f 77, f 78, f 79, f 80, f 81, f 82, f 83, f 84, f 85, f 86, f 87, f 88, f 89, f 90, f 91, f 92, f 93, f 94, f 95, f 96, f 97, f 98, f 99, f 100, f 101, f 102, f 103, f 104, f 105, f 106, f 107, f 108, f 109, f 110, f 111, f 112, f 113, f 114, f 115, f 116, f 117, f 118, f 119, f 120, f 121, f 122, f 123, f 124, f 125, f 126, f 127, f 128, f 129, f 130, f 131, f 132, f 133, f 134, f 135, f 136, f 137, f 138, f 139, f 140, f 141, f 142, f 143, f 144, f 145, f 146, f 147, f 148, f 149, f 150, f 151, f 152, f 153, f 154, f 155, f 156], []⟩ _
  simp only at h0 h9 h13
  simp only [h0, h9, h13]
  clear h0 h9 h13
  conv => arg 2; whnf
  obtain ⟨m0, m1, m2⟩ := cells3 r.out
  go_wp2_with (go_at_call 48; refine (k44 _).mono ?_)
  intro r' w9 hh
  first | (obtain ⟨rfl, b1⟩ : _ ∧ _ := hh) | (subst hh; intro b1)
  have B1 : Hid (Below w0.heap.size w0 w9) := B.out.trans (b1.mono B.out.size)
  clear b1
  go_wp2
  go_ret
  exact ⟨rfl, B1.out⟩
theorem rA_any {p : Nat} {bi : Int} {K : Nat} (ng : Bool) (b g b2 S : Nat) (hb2 : bits .or .u64 (b : Int) (S : Int) = (b2 : Int)) (k44 : ∀ w, Calls Try.prog 48 #[.agg #[.int .i64 p, .int .i64 K, .int .i64 bi]] w fun e w' => e = .returned (.int .u64 (S : Int)) ∧ Below w.heap.size w w') (a : Act) (w0 w : World) (B : Hid (Below w0.heap.size w0 w)) (r : Hid (w.heap[g]? = some (.cells #[.int .i64 p, .int .i64 K, .int .i64 bi] 30 (0, 0)))) (ha : At 157 [(0, .bool ng), (9, .pointer (some ⟨g, 0, none⟩)), (13, .int .u64 (b : Int))] a) :
    Code.wp Try.prog (sq 9 body37) (bodyPost Try.prog Try.f15 fun r w' => r = .returned (.int .u64 ((if ng then b2 else b : Nat) : Int)) ∧ Below w0.heap.size w0 w') a w := by
  cases ng
  · exact rA_false b g a w0 w B ha
  · exact rA_true b g b2 S hb2 k44 a w0 w B r ha
set_option maxRecDepth 100000 in
set_option maxHeartbeats 2000000 in
theorem rB_zero {Q : Exit → Act → World → Prop} {p : Nat} {bi : Int} {K : Nat} (ng : Bool) (n g P _GG _ML _V : Nat) (x : Int) (_h1 : 1 ≤ p) (_h2 : p ≤ 52) (_hb0 : 0 ≤ bi) (_hb1 : bi ≤ 1023) (_hK1 : (K : Int) ≤ 2047) (_hx1 : -80000 ≤ x) (_hx2 : x ≤ 80000) (_hn : (n : Int) < 18446744073709551615) (_hP : IntKind.u64.wrap ((2 : Int) ^ p) = P) (_hPa : (1 : Int) ≤ P) (_hPb : (P : Int) ≤ 9007199254740992) (z : (n : Int) = 0) (a : Act) (w : World) (r : Hid (w.heap[g]? = some (.cells #[.int .i64 p, .int .i64 K, .int .i64 bi] 30 (0, 0)))) (hK : Hid (∀ a, At 157 [(0, .bool ng), (9, .pointer (some ⟨g, 0, none⟩)), (13, .int .u64 (0 : Int))] a → Code.wp Try.prog (sq 9 body37) Q a w)) (ha : At 157 [(0, .bool ng), (1, .int .u64 (n : Int)), (2, .int .i64 x), (9, .pointer (some ⟨g, 0, none⟩))] a) :
    Code.wp Try.prog (sq 7 body37) Q a w := by
  obtain ⟨f, rfl, h0, h1, h2, h9, -⟩ := ha.lit
  change Code.wp _ _ _ ⟨#[f 0, f 1, f 2, f 3, f 4, f 5, f 6, f 7, f 8, f 9, f 10, f 11, f 12, f 13, f 14, f 15, f 16, f 17, f 18, f 19, f 20, f 21, f 22, f 23, f 24, f 25, f 26, f 27, f 28, f 29, f 30, f 31, f 32, f 33, f 34, f 35, f 36, f 37, f 38, f 39, f 40, f 41, f 42, f 43, f 44, f 45, f 46, f 47, f 48, f 49, f 50, f 51, f 52, f 53, f 54, f 55, f 56, f 57, f 58, f 59, f 60, f 61, f 62, f 63, f 64, f 65, f 66, f 67, f 68, f 69, f 70, f 71, f 72, f 73, f 74, f 75, f 76, f 77, f 78, f 79, f 80, f 81, f 82, f 83, f 84, f 85, f 86, f 87, f 88, f 89, f 90, f 91, f 92, f 93, f 94, f 95, f 96, f 97, f 98, f 99, f 100, f 101, f 102, f 103, f 104, f 105, f 106, f 107, f 108, f 109, f 110, f 111, f 112, f 113, f 114, f 115, f 116, f 117, f 118, f 119, f 120, f 121, f 122, f 123, f 124, f 125, f 126, f 127, f 128, f 129, f 130, f 131, f 132, f 133, f 134, f 135, f 136, f 137, f 138, f 139, f 140, f 141, f 142, f 143, f 144, f 145, f 146, f 147, f 148, f 149, f 150, f 151, f 152, f 153, f 154, f 155, f 156], []⟩ _
  simp only at h0 h1 h2 h9
  simp only [h0, h1, h2, h9]
  clear h0 h1 h2 h9
  change Code.wp _ (Code.seq (hd (sq 7 body37)) (Code.seq (hd (sq 8 body37)) (sq 9 body37))) _ _ _
  generalize sq 9 body37 = REST at hK ⊢
  conv => arg 2; arg 1; whnf
  conv => arg 2; arg 2; arg 1; whnf
  obtain ⟨m0, m1, m2⟩ := cells3 r.out
  go_wp2
  exact hK.out _ ⟨rfl, rfl, rfl, rfl, rfl, trivial⟩
set_option maxRecDepth 100000 in
set_option maxHeartbeats 2000000 in
theorem rB_sub {Q : Exit → Act → World → Prop} {p : Nat} {bi : Int} {K : Nat} (ng : Bool) (n g P _GG _ML _V : Nat) (x : Int) (h1 : 1 ≤ p) (h2 : p ≤ 52) (_hb0 : 0 ≤ bi) (_hb1 : bi ≤ 1023) (_hK1 : (K : Int) ≤ 2047) (_hx1 : -80000 ≤ x) (_hx2 : x ≤ 80000) (_hn : (n : Int) < 18446744073709551615) (_hP : IntKind.u64.wrap ((2 : Int) ^ p) = P) (_hPa : (1 : Int) ≤ P) (_hPb : (P : Int) ≤ 9007199254740992) (z4 : ((n : Int) == 0) = false) (q4 : (n : Int) / 2 ^ p = 0) (a : Act) (w : World) (r : Hid (w.heap[g]? = some (.cells #[.int .i64 p, .int .i64 K, .int .i64 bi] 30 (0, 0)))) (hK : Hid (∀ a, At 157 [(0, .bool ng), (9, .pointer (some ⟨g, 0, none⟩)), (13, .int .u64 (n : Int))] a → Code.wp Try.prog (sq 9 body37) Q a w)) (ha : At 157 [(0, .bool ng), (1, .int .u64 (n : Int)), (2, .int .i64 x), (9, .pointer (some ⟨g, 0, none⟩))] a) :
    Code.wp Try.prog (sq 7 body37) Q a w := by
  obtain ⟨f, rfl, h0, h1, h2, h9, -⟩ := ha.lit
  change Code.wp _ _ _ ⟨#[f 0, f 1, f 2, f 3, f 4, f 5, f 6, f 7, f 8, f 9, f 10, f 11, f 12, f 13, f 14, f 15, f 16, f 17, f 18, f 19, f 20, f 21, f 22, f 23, f 24, f 25, f 26, f 27, f 28, f 29, f 30, f 31, f 32, f 33, f 34, f 35, f 36, f 37, f 38, f 39, f 40, f 41, f 42, f 43, f 44, f 45, f 46, f 47, f 48, f 49, f 50, f 51, f 52, f 53, f 54, f 55, f 56, f 57, f 58, f 59, f 60, f 61, f 62, f 63, f 64, f 65, f 66, f 67, f 68, f 69, f 70, f 71, f 72, f 73, f 74, f 75, f 76, f 77, f 78, f 79, f 80, f 81, f 82, f 83, f 84, f 85, f 86, f 87, f 88, f 89, f 90, f 91, f 92, f 93, f 94, f 95, f 96, f 97, f 98, f 99, f 100, f 101, f 102, f 103, f 104, f 105, f 106, f 107, f 108, f 109, f 110, f 111, f 112, f 113, f 114, f 115, f 116, f 117, f 118, f 119, f 120, f 121, f 122, f 123, f 124, f 125, f 126, f 127, f 128, f 129, f 130, f 131, f 132, f 133, f 134, f 135, f 136, f 137, f 138, f 139, f 140, f 141, f 142, f 143, f 144, f 145, f 146, f 147, f 148, f 149, f 150, f 151, f 152, f 153, f 154, f 155, f 156], []⟩ _
  simp only at h0 h1 h2 h9
  simp only [h0, h1, h2, h9]
  clear h0 h1 h2 h9
  change Code.wp _ (Code.seq (hd (sq 7 body37)) (Code.seq (hd (sq 8 body37)) (sq 9 body37))) _ _ _
  generalize sq 9 body37 = REST at hK ⊢
  conv => arg 2; arg 1; whnf
  conv => arg 2; arg 2; arg 1; whnf
  obtain ⟨m0, m1, m2⟩ := cells3 r.out
  go_wp2
  exact hK.out _ ⟨rfl, rfl, rfl, rfl, rfl, trivial⟩
set_option maxRecDepth 100000 in
set_option maxHeartbeats 2000000 in
theorem rB_inf {Q : Exit → Act → World → Prop} {p : Nat} {bi : Int} {K : Nat} (ng : Bool) (n g P _GG _ML V : Nat) (x : Int) (h1 : 1 ≤ p) (h2 : p ≤ 52) (hb0 : 0 ≤ bi) (hb1 : bi ≤ 1023) (hK1 : (K : Int) ≤ 2047) (hx1 : -80000 ≤ x) (hx2 : x ≤ 80000) (_hn : (n : Int) < 18446744073709551615) (_hP : IntKind.u64.wrap ((2 : Int) ^ p) = P) (_hPa : (1 : Int) ≤ P) (_hPb : (P : Int) ≤ 9007199254740992) (z4 : ((n : Int) == 0) = false) (q4 : ((n : Int) / 2 ^ p == 0) = false) (t4 : (K : Int) - bi - p ≤ x) (hV : IntKind.u64.wrap ((K : Int) * 2 ^ p) = (V : Int)) (a : Act) (w : World) (r : Hid (w.heap[g]? = some (.cells #[.int .i64 p, .int .i64 K, .int .i64 bi] 30 (0, 0)))) (hK : Hid (∀ a, At 157 [(0, .bool ng), (9, .pointer (some ⟨g, 0, none⟩)), (13, .int .u64 (V : Int))] a → Code.wp Try.prog (sq 9 body37) Q a w)) (ha : At 157 [(0, .bool ng), (1, .int .u64 (n : Int)), (2, .int .i64 x), (9, .pointer (some ⟨g, 0, none⟩))] a) :
    Code.wp Try.prog (sq 7 body37) Q a w := by
  obtain ⟨f, rfl, h0, h1, h2, h9, -⟩ := ha.lit
  change Code.wp _ _ _ ⟨#[f 0, f 1, f 2, f 3, f 4, f 5, f 6, f 7, f 8, f 9, f 10, f 11, f 12, f 13, f 14, f 15, f 16, f 17, f 18, f 19, f 20, f 21, f 22, f 23, f 24, f 25, f 26, f 27, f 28, f 29, f 30, f 31, f 32, f 33, f 34, f 35, f 36, f 37, f 38, f 39, f 40, f 41, f 42, f 43, f 44, f 45, f 46, f 47, f 48, f 49, f 50, f 51, f 52, f 53, f 54, f 55, f 56, f 57, f 58, f 59, f 60, f 61, f 62, f 63, f 64, f 65, f 66, f 67, f 68, f 69, f 70, f 71, f 72, f 73, f 74, f 75, f 76, f 77, f 78, f 79, f 80, f 81, f 82, f 83, f 84, f 85, f 86, f 87, f 88, f 89, f 90, f 91, f 92, f 93, f 94, f 95, f 96, f 97, f 98, f 99, f 100, f 101, f 102, f 103, f 104, f 105, f 106, f 107, f 108, f 109, f 110, f 111, f 112, f 113, f 114, f 115, f 116, f 117, f 118, f 119, f 120, f 121, f 122, f 123, f 124, f 125, f 126, f 127, f 128, f 129, f 130, f 131, f 132, f 133, f 134, f 135, f 136, f 137, f 138, f 139, f 140, f 141, f 142, f 143, f 144, f 145, f 146, f 147, f 148, f 149, f 150, f 151, f 152, f 153, f 154, f 155, f 156], []⟩ _
  simp only at h0 h1 h2 h9
  simp only [h0, h1, h2, h9]
  clear h0 h1 h2 h9
  change Code.wp _ (Code.seq (hd (sq 7 body37)) (Code.seq (hd (sq 8 body37)) (sq 9 body37))) _ _ _
  generalize sq 9 body37 = REST at hK ⊢
  conv => arg 2; arg 1; whnf
  conv => arg 2; arg 2; arg 1; whnf
  obtain ⟨m0, m1, m2⟩ := cells3 r.out
  go_wp2
  exact hK.out _ ⟨rfl, rfl, rfl, rfl, rfl, trivial⟩
set_option maxRecDepth 100000 in
set_option maxHeartbeats 2000000 in
theorem rB_norm {Q : Exit → Act → World → Prop} {p : Nat} {bi : Int} {K : Nat} (ng : Bool) (n g P GG ML V : Nat) (x : Int) (h1 : 1 ≤ p) (h2 : p ≤ 52) (_hb0 : 0 ≤ bi) (_hb1 : bi ≤ 1023) (hK1 : (K : Int) ≤ 2047) (hx1 : -80000 ≤ x) (hx2 : x ≤ 80000) (_hn : (n : Int) < 18446744073709551615) (hP : IntKind.u64.wrap ((2 : Int) ^ p) = P) (hPa : (1 : Int) ≤ P) (hPb : (P : Int) ≤ 9007199254740992) (z4 : ((n : Int) == 0) = false) (q4 : ((n : Int) / 2 ^ p == 0) = false) (t4 : ¬ (K : Int) - bi - p ≤ x) (hG : IntKind.u64.wrap ((x + bi + p) * 2 ^ p) = (GG : Int)) (hE1 : (0 : Int) ≤ x + bi + p) (hE2 : x + bi + p ≤ 4096) (hL : bits .and .u64 (n : Int) ((P : Int) - 1) = (ML : Int)) (hV : bits .or .u64 (GG : Int) (ML : Int) = (V : Int)) (a : Act) (w : World) (r : Hid (w.heap[g]? = some (.cells #[.int .i64 p, .int .i64 K, .int .i64 bi] 30 (0, 0)))) (hK : Hid (∀ a, At 157 [(0, .bool ng), (9, .pointer (some ⟨g, 0, none⟩)), (13, .int .u64 (V : Int))] a → Code.wp Try.prog (sq 9 body37) Q a w)) (ha : At 157 [(0, .bool ng), (1, .int .u64 (n : Int)), (2, .int .i64 x), (9, .pointer (some ⟨g, 0, none⟩))] a) :
    Code.wp Try.prog (sq 7 body37) Q a w := by
  obtain ⟨f, rfl, h0, h1, h2, h9, -⟩ := ha.lit
  change Code.wp _ _ _ ⟨#[f 0, f 1, f 2, f 3, f 4, f 5, f 6, f 7, f 8, f 9, f 10, f 11, f 12, f 13, f 14, f 15, f 16, f 17, f 18, f 19, f 20, f 21, f 22, f 23, f 24, f 25, f 26, f 27, f 28, f 29, f 30, f 31, f 32, f 33, f 34, f 35, f 36, f 37, f 38, f 39, f 40, f 41, f 42, f 43, f 44, f 45, f 46, f 47, f 48, f 49, f 50, f 51, f 52, f 53, f 54, f 55, f 56, f 57, f 58, f 59, f 60, f 61, f 62, f 63, f 64, f 65, f 66, f 67, f 68, f 69, f 70, f 71, f 72, f 73, f 74, f 75, f 76, f 77, f 78, f 79, f 80, f 81, f 82, f 83, f 84, f 85, f 86, f 87, f 88, f 89, f 90, f 91, f 92, f 93, f 94, f 95, f 96, f 97, f 98, f 99, f 100, f 101, f 102, f 103, f 104, f 105, f 106, f 107, f 108, f 109, f 110, f 111, f 112, f 113, f 114, f 115, f 116, f 117, f 118, f 119, f 120, f 121, f 122, f 123, f 124, f 125, f 126, f 127, f 128, f 129, f 130, f 131, f 132, f 133, f 134, f 135, f 136, f 137, f 138, f 139, f 140, f 141, f 142, f 143, f 144, f 145, f 146, f 147, f 148, f 149, f 150, f 151, f 152, f 153, f 154, f 155, f 156], []⟩ _
  simp only at h0 h1 h2 h9
  simp only [h0, h1, h2, h9]
  clear h0 h1 h2 h9
  change Code.wp _ (Code.seq (hd (sq 7 body37)) (Code.seq (hd (sq 8 body37)) (sq 9 body37))) _ _ _
  generalize sq 9 body37 = REST at hK ⊢
  conv => arg 2; arg 1; whnf
  conv => arg 2; arg 2; arg 1; whnf
  obtain ⟨m0, m1, m2⟩ := cells3 r.out
  go_wp2
  exact hK.out _ ⟨rfl, rfl, rfl, rfl, rfl, trivial⟩
set_option maxRecDepth 100000 in
set_option maxHeartbeats 2000000 in
theorem rC_no {Q : Exit → Act → World → Prop} {p : Nat} {bi : Int} {K : Nat} (ng : Bool) (g P P2 : Nat) (x : Int) (h1 : 1 ≤ p) (h2 : p ≤ 52) (_hx1 : -80000 ≤ x) (_hx2 : x ≤ 80000) (_hP : IntKind.u64.wrap ((2 : Int) ^ p) = P) (hP2 : IntKind.u64.wrap ((2 : Int) ^ (p + 1)) = P2) (_hPa : (1 : Int) ≤ P) (_hPb : (P : Int) ≤ 9007199254740992) (a : Act) (w : World) (r : Hid (w.heap[g]? = some (.cells #[.int .i64 p, .int .i64 K, .int .i64 bi] 30 (0, 0)))) (n : Nat) (n3c : ((n : Int) == (P2 : Int)) = false) (hK : Hid (∀ a, At 157 [(0, .bool ng), (1, .int .u64 (n : Int)), (2, .int .i64 x), (9, .pointer (some ⟨g, 0, none⟩))] a → Code.wp Try.prog (sq 7 body37) Q a w)) (ha : At 157 [(0, .bool ng), (1, .int .u64 (n : Int)), (2, .int .i64 x), (9, .pointer (some ⟨g, 0, none⟩))] a) :
    Code.wp Try.prog (sq 6 body37) Q a w := by
  obtain ⟨f, rfl, h0, h1, h2, h9, -⟩ := ha.lit
  change Code.wp _ _ _ ⟨#[f 0, f 1, f 2, f 3, f 4, f 5, f 6, f 7, f 8, f 9, f 10, f 11, f 12, f 13, f 14, f 15, f 16, f 17, f 18, f 19, f 20, f 21, f 22, f 23, f 24, f 25, f 26, f 27, f 28, f 29, f 30, f 31, f 32, f 33, f 34, f 35, f 36, f 37, f 38, f 39, f 40, f 41, f 42, f 43, f 44, f 45, f 46, f 47, f 48, f 49, f 50, f 51, f 52, f 53, f 54, f 55, f 56, f 57, f 58, f 59, f 60, f 61, f 62, f 63, f 64, f 65, f 66, f 67, f 68, f 69, f 70, f 71, f 72, f 73, f 74, f 75, f 76, f 77, f 78, f 79, f 80, f 81, f 82, f 83, f 84, f 85, f 86, f 87, f 88, f 89, f 90, f 91, f 92, f 93, f 94, f 95, f 96, f 97, f 98, f 99, f 100, f 101, f 102, f 103, f 104, f 105, f 106, f 107, f 108, f 109, f 110, f 111, f 112, f 113, f 114, f 115, f 116, f 117, f 118, f 119, f 120, f 121, f 122, f 123, f 124, f 125, f 126, f 127, f 128, f 129, f 130, f 131, f 132, f 133, f 134, f 135, f 136, f 137, f 138, f 139, f 140, f 141, f 142, f 143, f 144, f 145, f 146, f 147, f 148, f 149, f 150, f 151, f 152, f 153, f 154, f 155, f 156], []⟩ _
  simp only at h0 h1 h2 h9
  simp only [h0, h1, h2, h9]
  clear h0 h1 h2 h9
  change Code.wp _ (Code.seq (hd (sq 6 body37)) (sq 7 body37)) _ _ _
  generalize sq 7 body37 = REST at hK ⊢
  conv => arg 2; arg 1; whnf
  obtain ⟨m0, m1, m2⟩ := cells3 r.out
  go_wp2
  exact hK.out _ ⟨rfl, rfl, rfl, rfl, rfl, rfl, trivial⟩
set_option maxRecDepth 100000 in
set_option maxHeartbeats 2000000 in
theorem rC_yes {Q : Exit → Act → World → Prop} {p : Nat} {bi : Int} {K : Nat} (ng : Bool) (g P P2 : Nat) (x : Int) (h1 : 1 ≤ p) (h2 : p ≤ 52) (hx1 : -80000 ≤ x) (hx2 : x ≤ 80000) (_hP : IntKind.u64.wrap ((2 : Int) ^ p) = P) (hP2 : IntKind.u64.wrap ((2 : Int) ^ (p + 1)) = P2) (_hPa : (1 : Int) ≤ P) (_hPb : (P : Int) ≤ 9007199254740992) (a : Act) (w : World) (r : Hid (w.heap[g]? = some (.cells #[.int .i64 p, .int .i64 K, .int .i64 bi] 30 (0, 0)))) (N4 : Nat) (n4 : (P2 : Int).tdiv 2 = (N4 : Int)) (n4w : IntKind.u64.wrap (N4 : Int) = (N4 : Int)) (hK : Hid (∀ a, At 157 [(0, .bool ng), (1, .int .u64 (N4 : Int)), (2, .int .i64 (x + 1)), (9, .pointer (some ⟨g, 0, none⟩))] a → Code.wp Try.prog (sq 7 body37) Q a w)) (ha : At 157 [(0, .bool ng), (1, .int .u64 (P2 : Int)), (2, .int .i64 x), (9, .pointer (some ⟨g, 0, none⟩))] a) :
    Code.wp Try.prog (sq 6 body37) Q a w := by
  obtain ⟨f, rfl, h0, h1, h2, h9, -⟩ := ha.lit
  change Code.wp _ _ _ ⟨#[f 0, f 1, f 2, f 3, f 4, f 5, f 6, f 7, f 8, f 9, f 10, f 11, f 12, f 13, f 14, f 15, f 16, f 17, f 18, f 19, f 20, f 21, f 22, f 23, f 24, f 25, f 26, f 27, f 28, f 29, f 30, f 31, f 32, f 33, f 34, f 35, f 36, f 37, f 38, f 39, f 40, f 41, f 42, f 43, f 44, f 45, f 46, f 47, f 48, f 49, f 50, f 51, f 52, f 53, f 54, f 55, f 56, f 57, f 58, f 59, f 60, f 61, f 62, f 63, f 64, f 65, f 66, f 67, f 68, f 69, f 70, f 71, f 72, f 73, f 74, f 75, f 76, f 77, f 78, f 79, f 80, f 81, f 82, f 83, f 84, f 85, f 86, f 87, f 88, f 89, f 90, f 91, f 92, f 93, f 94, f 95, f 96, f 97, f 98, f 99, f 100, f 101, f 102, f 103, f 104, f 105, f 106, f 107, f 108, f 109, f 110, f 111, f 112, f 113, f 114, f 115, f 116, f 117, f 118, f 119, f 120, f 121, f 122, f 123, f 124, f 125, f 126, f 127, f 128, f 129, f 130, f 131, f 132, f 133, f 134, f 135, f 136, f 137, f 138, f 139, f 140, f 141, f 142, f 143, f 144, f 145, f 146, f 147, f 148, f 149, f 150, f 151, f 152, f 153, f 154, f 155, f 156], []⟩ _
  simp only at h0 h1 h2 h9
  simp only [h0, h1, h2, h9]
  clear h0 h1 h2 h9
  change Code.wp _ (Code.seq (hd (sq 6 body37)) (sq 7 body37)) _ _ _
  generalize sq 7 body37 = REST at hK ⊢
  conv => arg 2; arg 1; whnf
  obtain ⟨m0, m1, m2⟩ := cells3 r.out
  go_wp2
  exact hK.out _ ⟨rfl, rfl, rfl, rfl, rfl, rfl, trivial⟩
set_option maxRecDepth 100000 in
set_option maxHeartbeats 2000000 in
theorem rD_F0 {Q : Exit → Act → World → Prop} {p : Nat} {bi : Int} {K : Nat} (ng : Bool) (g P P2 : Nat) (x : Int) (_h1 : 1 ≤ p) (_h2 : p ≤ 52) (_hx1 : -80000 ≤ x) (_hx2 : x ≤ 80000) (_hP : IntKind.u64.wrap ((2 : Int) ^ p) = P) (_hP2 : IntKind.u64.wrap ((2 : Int) ^ (p + 1)) = P2) (_hPa : (1 : Int) ≤ P) (_hPb : (P : Int) ≤ 9007199254740992) (a : Act) (w : World) (r : Hid (w.heap[g]? = some (.cells #[.int .i64 p, .int .i64 K, .int .i64 bi] 30 (0, 0)))) (n : Nat) (s : Bool) (hK : Hid (∀ a, At 157 [(0, .bool ng), (1, .int .u64 (n : Int)), (2, .int .i64 x), (9, .pointer (some ⟨g, 0, none⟩))] a → Code.wp Try.prog (sq 6 body37) Q a w)) (ha : At 157 [(0, .bool ng), (1, .int .u64 (n : Int)), (2, .int .i64 x), (3, .bool s), (12, .bool false), (9, .pointer (some ⟨g, 0, none⟩))] a) :
    Code.wp Try.prog (sq 5 body37) Q a w := by
  obtain ⟨f, rfl, h0, h1, h2, h3, h12, h9, -⟩ := ha.lit
  change Code.wp _ _ _ ⟨#[f 0, f 1, f 2, f 3, f 4, f 5, f 6, f 7, f 8, f 9, f 10, f 11, f 12, f 13, f 14, f 15, f 16, f 17, f 18, f 19, f 20, f 21, f 22, f 23, f 24, f 25, f 26, f 27, f 28, f 29, f 30, f 31, f 32, f 33, f 34, f 35, f 36, f 37, f 38, f 39, f 40, f 41, f 42, f 43, f 44, f 45, f 46, f 47, f 48, f 49, f 50, f 51, f 52, f 53, f 54, f 55, f 56, f 57, f 58, f 59, f 60, f 61, f 62, f 63, f 64, f 65, f 66, f 67, f 68, f 69, f 70, f 71, f 72, f 73, f 74, f 75, f 76, f 77, f 78, f 79, f 80, f 81, f 82, f 83, f 84, f 85, f 86, f 87, f 88, f 89, f 90, f 91, f 92, f 93, f 94, f 95, f 96, f 97, f 98, f 99, f 100, f 101, f 102, f 103, f 104, f 105, f 106, f 107, f 108, f 109, f 110, f 111, f 112, f 113, f 114, f 115, f 116, f 117, f 118, f 119, f 120, f 121, f 122, f 123, f 124, f 125, f 126, f 127, f 128, f 129, f 130, f 131, f 132, f 133, f 134, f 135, f 136, f 137, f 138, f 139, f 140, f 141, f 142, f 143, f 144, f 145, f 146, f 147, f 148, f 149, f 150, f 151, f 152, f 153, f 154, f 155, f 156], []⟩ _
  simp only at h0 h1 h2 h3 h12 h9
  simp only [h0, h1, h2, h3, h12, h9]
  clear h0 h1 h2 h3 h12 h9
  change Code.wp _ (Code.seq (hd (sq 5 body37)) (sq 6 body37)) _ _ _
  generalize sq 6 body37 = REST at hK ⊢
  conv => arg 2; arg 1; whnf
  obtain ⟨m0, m1, m2⟩ := cells3 r.out
  go_wp2
  exact hK.out _ ⟨rfl, rfl, rfl, rfl, rfl, rfl, trivial⟩
set_option maxRecDepth 100000 in
set_option maxHeartbeats 2000000 in
theorem rD_T1 {Q : Exit → Act → World → Prop} {p : Nat} {bi : Int} {K : Nat} (ng : Bool) (g P P2 : Nat) (x : Int) (_h1 : 1 ≤ p) (_h2 : p ≤ 52) (_hx1 : -80000 ≤ x) (_hx2 : x ≤ 80000) (_hP : IntKind.u64.wrap ((2 : Int) ^ p) = P) (_hP2 : IntKind.u64.wrap ((2 : Int) ^ (p + 1)) = P2) (_hPa : (1 : Int) ≤ P) (_hPb : (P : Int) ≤ 9007199254740992) (a : Act) (w : World) (r : Hid (w.heap[g]? = some (.cells #[.int .i64 p, .int .i64 K, .int .i64 bi] 30 (0, 0)))) (n : Nat) (hup : IntKind.u64.wrap ((n : Int) + 1) = (n : Int) + 1) (hK : Hid (∀ a, At 157 [(0, .bool ng), (1, .int .u64 ((n : Int) + 1)), (2, .int .i64 x), (9, .pointer (some ⟨g, 0, none⟩))] a → Code.wp Try.prog (sq 6 body37) Q a w)) (ha : At 157 [(0, .bool ng), (1, .int .u64 (n : Int)), (2, .int .i64 x), (3, .bool true), (12, .bool true), (9, .pointer (some ⟨g, 0, none⟩))] a) :
    Code.wp Try.prog (sq 5 body37) Q a w := by
  obtain ⟨f, rfl, h0, h1, h2, h3, h12, h9, -⟩ := ha.lit
  change Code.wp _ _ _ ⟨#[f 0, f 1, f 2, f 3, f 4, f 5, f 6, f 7, f 8, f 9, f 10, f 11, f 12, f 13, f 14, f 15, f 16, f 17, f 18, f 19, f 20, f 21, f 22, f 23, f 24, f 25, f 26, f 27, f 28, f 29, f 30, f 31, f 32, f 33, f 34, f 35, f 36, f 37, f 38, f 39, f 40, f 41, f 42, f 43, f 44, f 45, f 46, f 47, f 48, f 49, f 50, f 51, f 52, f 53, f 54, f 55, f 56, f 57, f 58, f 59, f 60, f 61, f 62, f 63, f 64, f 65, f 66, f 67, f 68, f 69, f 70, f 71, f 72, f 73, f 74, f 75, f 76, f 77, f 78, f 79, f 80, f 81, f 82, f 83, f 84, f 85, f 86, f 87, f 88, f 89, f 90, f 91, f 92, f 93, f 94, f 95, f 96, f 97, f 98, f 99, f 100, f 101, f 102, f 103, f 104, f 105, f 106, f 107, f 108, f 109, f 110, f 111, f 112, f 113, f 114, f 115, f 116, f 117, f 118, f 119, f 120, f 121, f 122, f 123, f 124, f 125, f 126, f 127, f 128, f 129, f 130, f 131, f 132, f 133, f 134, f 135, f 136, f 137, f 138, f 139, f 140, f 141, f 142, f 143, f 144, f 145, f 146, f 147, f 148, f 149, f 150, f 151, f 152, f 153, f 154, f 155, f 156], []⟩ _
  simp only at h0 h1 h2 h3 h12 h9
  simp only [h0, h1, h2, h3, h12, h9]
  clear h0 h1 h2 h3 h12 h9
  change Code.wp _ (Code.seq (hd (sq 5 body37)) (sq 6 body37)) _ _ _
  generalize sq 6 body37 = REST at hK ⊢
  conv => arg 2; arg 1; whnf
  obtain ⟨m0, m1, m2⟩ := cells3 r.out
  go_wp2
  exact hK.out _ ⟨rfl, rfl, rfl, rfl, rfl, rfl, trivial⟩
set_option maxRecDepth 100000 in
set_option maxHeartbeats 2000000 in
theorem rD_To {Q : Exit → Act → World → Prop} {p : Nat} {bi : Int} {K : Nat} (ng : Bool) (g P P2 : Nat) (x : Int) (_h1 : 1 ≤ p) (_h2 : p ≤ 52) (_hx1 : -80000 ≤ x) (_hx2 : x ≤ 80000) (_hP : IntKind.u64.wrap ((2 : Int) ^ p) = P) (_hP2 : IntKind.u64.wrap ((2 : Int) ^ (p + 1)) = P2) (_hPa : (1 : Int) ≤ P) (_hPb : (P : Int) ≤ 9007199254740992) (a : Act) (w : World) (r : Hid (w.heap[g]? = some (.cells #[.int .i64 p, .int .i64 K, .int .i64 bi] 30 (0, 0)))) (n : Nat) (hup : IntKind.u64.wrap ((n : Int) + 1) = (n : Int) + 1) (hod : (bits .and .u64 (n : Int) 1 == 1) = true) (hK : Hid (∀ a, At 157 [(0, .bool ng), (1, .int .u64 ((n : Int) + 1)), (2, .int .i64 x), (9, .pointer (some ⟨g, 0, none⟩))] a → Code.wp Try.prog (sq 6 body37) Q a w)) (ha : At 157 [(0, .bool ng), (1, .int .u64 (n : Int)), (2, .int .i64 x), (3, .bool false), (12, .bool true), (9, .pointer (some ⟨g, 0, none⟩))] a) :
    Code.wp Try.prog (sq 5 body37) Q a w := by
  obtain ⟨f, rfl, h0, h1, h2, h3, h12, h9, -⟩ := ha.lit
  change Code.wp _ _ _ ⟨#[f 0, f 1, f 2, f 3, f 4, f 5, f 6, f 7, f 8, f 9, f 10, f 11, f 12, f 13, f 14, f 15, f 16, f 17, f 18, f 19, f 20, f 21, f 22, f 23, f 24, f 25, f 26, f 27, f 28, f 29, f 30, f 31, f 32, f 33, f 34, f 35, f 36, f 37, f 38, f 39, f 40, f 41, f 42, f 43, f 44, f 45, f 46, f 47, f 48, f 49, f 50, f 51, f 52, f 53, f 54, f 55, f 56, f 57, f 58, f 59, f 60, f 61, f 62, f 63, f 64, f 65, f 66, f 67, f 68, f 69, f 70, f 71, f 72, f 73, f 74, f 75, f 76, f 77, f 78, f 79, f 80, f 81, f 82, f 83, f 84, f 85, f 86, f 87, f 88, f 89, f 90, f 91, f 92, f 93, f 94, f 95, f 96, f 97, f 98, f 99, f 100, f 101, f 102, f 103, f 104, f 105, f 106, f 107, f 108, f 109, f 110, f 111, f 112, f 113, f 114, f 115, f 116, f 117, f 118, f 119, f 120, f 121, f 122, f 123, f 124, f 125, f 126, f 127, f 128, f 129, f 130, f 131, f 132, f 133, f 134, f 135, f 136, f 137, f 138, f 139, f 140, f 141, f 142, f 143, f 144, f 145, f 146, f 147, f 148, f 149, f 150, f 151, f 152, f 153, f 154, f 155, f 156], []⟩ _
  simp only at h0 h1 h2 h3 h12 h9
  simp only [h0, h1, h2, h3, h12, h9]
  clear h0 h1 h2 h3 h12 h9
  change Code.wp _ (Code.seq (hd (sq 5 body37)) (sq 6 body37)) _ _ _
  generalize sq 6 body37 = REST at hK ⊢
  conv => arg 2; arg 1; whnf
  obtain ⟨m0, m1, m2⟩ := cells3 r.out
  go_wp2
  exact hK.out _ ⟨rfl, rfl, rfl, rfl, rfl, rfl, trivial⟩
set_option maxRecDepth 100000 in
set_option maxHeartbeats 2000000 in
theorem rD_Te {Q : Exit → Act → World → Prop} {p : Nat} {bi : Int} {K : Nat} (ng : Bool) (g P P2 : Nat) (x : Int) (_h1 : 1 ≤ p) (_h2 : p ≤ 52) (_hx1 : -80000 ≤ x) (_hx2 : x ≤ 80000) (_hP : IntKind.u64.wrap ((2 : Int) ^ p) = P) (_hP2 : IntKind.u64.wrap ((2 : Int) ^ (p + 1)) = P2) (_hPa : (1 : Int) ≤ P) (_hPb : (P : Int) ≤ 9007199254740992) (a : Act) (w : World) (r : Hid (w.heap[g]? = some (.cells #[.int .i64 p, .int .i64 K, .int .i64 bi] 30 (0, 0)))) (n : Nat) (hod : (bits .and .u64 (n : Int) 1 == 1) = false) (hK : Hid (∀ a, At 157 [(0, .bool ng), (1, .int .u64 (n : Int)), (2, .int .i64 x), (9, .pointer (some ⟨g, 0, none⟩))] a → Code.wp Try.prog (sq 6 body37) Q a w)) (ha : At 157 [(0, .bool ng), (1, .int .u64 (n : Int)), (2, .int .i64 x), (3, .bool false), (12, .bool true), (9, .pointer (some ⟨g, 0, none⟩))] a) :
    Code.wp Try.prog (sq 5 body37) Q a w := by
  obtain ⟨f, rfl, h0, h1, h2, h3, h12, h9, -⟩ := ha.lit
  change Code.wp _ _ _ ⟨#[f 0, f 1, f 2, f 3, f 4, f 5, f 6, f 7, f 8, f 9, f 10, f 11, f 12, f 13, f 14, f 15, f 16, f 17, f 18, f 19, f 20, f 21, f 22, f 23, f 24, f 25, f 26, f 27, f 28, f 29, f 30, f 31, f 32, f 33, f 34, f 35, f 36, f 37, f 38, f 39, f 40, f 41, f 42, f 43, f 44, f 45, f 46, f 47, f 48, f 49, f 50, f 51, f 52, f 53, f 54, f 55, f 56, f 57, f 58, f 59, f 60, f 61, f 62, f 63, f 64, f 65, f 66, f 67, f 68, f 69, f 70, f 71, f 72, f 73, f 74, f 75, f 76, f 77, f 78, f 79, f 80, f 81, f 82, f 83, f 84, f 85, f 86, f 87, f 88, f 89, f 90, f 91, f 92, f 93, f 94, f 95, f 96, f 97, f 98, f 99, f 100, f 101, f 102, f 103, f 104, f 105, f 106, f 107, f 108, f 109, f 110, f 111, f 112, f 113, f 114, f 115, f 116, f 117, f 118, f 119, f 120, f 121, f 122, f 123, f 124, f 125, f 126, f 127, f 128, f 129, f 130, f 131, f 132, f 133, f 134, f 135, f 136, f 137, f 138, f 139, f 140, f 141, f 142, f 143, f 144, f 145, f 146, f 147, f 148, f 149, f 150, f 151, f 152, f 153, f 154, f 155, f 156], []⟩ _
  simp only at h0 h1 h2 h3 h12 h9
  simp only [h0, h1, h2, h3, h12, h9]
  clear h0 h1 h2 h3 h12 h9
  change Code.wp _ (Code.seq (hd (sq 5 body37)) (sq 6 body37)) _ _ _
  generalize sq 6 body37 = REST at hK ⊢
  conv => arg 2; arg 1; whnf
  obtain ⟨m0, m1, m2⟩ := cells3 r.out
  go_wp2
  exact hK.out _ ⟨rfl, rfl, rfl, rfl, rfl, rfl, trivial⟩
end Go.Proofs.Ytjcjecbffnadaab
