/-
  What the statement of the sum's order asks, walked: the list with noughts put in; the sums. Conditions: the floats' bits fit; the list is not too long.
-/
import Derived.Test.YtdhfkdopcphjlaaOr2
import Derived.Test.YtdhfkdopcphjlaaFc
import Derived.OwnWalk
import Derived.Maps.AppendAt
import Derived.Deep.DeepMust
namespace Go.Proofs.Ytdhfkdopcphjlaa
open Go.RowKit
set_option maxRecDepth 100000 in
set_option maxHeartbeats 1000000 in
theorem or_10 {Q : Exit → Act → World → Prop} (bs : List Nat) (g off c0 : Nat) (vb vt : Value) (a : Act) (w0 : World) (h2 : bs.length ≤ 1000) (hdd : ∀ j, j < bs.length → w0.cell? ⟨g, off + j, none⟩ = some ((flt bs).getD j undef))
    (hK : Hid (∀ a w2 vn, Below w0.heap.size w0 w2 → w2.ownsRow w0.heap.size 25 1 vn (bs.length + 2) (flt bs ++ [.float .f64 0, .float .f64 0]) → At 109 [(0, .slice (some ⟨g, off, none⟩) bs.length c0), (5, vb), (7, vt), (8, vn)] a → Code.wp Try.prog (sq 7 body6) Q a w2)) (ha : At 109 [(0, .slice (some ⟨g, off, none⟩) bs.length c0), (5, vb), (7, vt)] a) : Code.wp Try.prog (sq 6 body6) Q a w0 := by
  obtain ⟨i0, hi, hz0, hz1, hz2⟩ := info_parts info25
  obtain ⟨f, rfl, h0, h5, h7, -⟩ := ha.lit
  change Code.wp _ _ _ ⟨#[f 0, f 1, f 2, f 3, f 4, f 5, f 6, f 7, f 8, f 9, f 10, f 11, f 12, f 13, f 14, f 15, f 16, f 17, f 18, f 19, f 20, f 21, f 22, f 23, f 24, f 25, f 26, f 27, f 28, f 29, f 30, f 31, f 32, f 33, f 34, f 35, f 36, f 37, f 38, f 39, f 40, f 41, f 42, f 43, f 44, f 45, f 46, f 47, f 48, f 49, f 50, f 51, f 52, f 53, f 54, f 55, f 56, f 57, f 58, f 59, f 60, f 61, f 62, f 63, f 64, f 65, f 66, f 67, f 68, f 69, f 70, f 71, f 72, f 73, f 74, f 75, f 76, f 77, f 78, f 79, f 80, f 81, f 82, f 83, f 84, f 85, f 86, f 87, f 88, f 89, f 90, f 91, f 92, f 93, f 94, f 95, f 96, f 97, f 98, f 99, f 100, f 101, f 102, f 103, f 104, f 105, f 106, f 107, f 108], []⟩ _
  simp only at h0 h5 h7
  simp only [h0, h5, h7]
  clear h0 h5 h7
  change Code.wp _ (Code.seq (hd (sq 6 body6)) (sq 7 body6)) _ _ _
  generalize sq 7 body6 = REST at hK ⊢
  conv => arg 2; arg 1; whnf
  have l2 : (bs.length : Int) ≤ 1000 := by omega
  have O0 : Hid ((w0.alloc (.cells #[] 25)).ownsRow w0.heap.size 25 1 (.slice (some ⟨w0.heap.size, 0, none⟩) 0 0) 0 []) := own_none w0 _ (Nat.le_refl _)
  have B0 : Hid (Below w0.heap.size w0 (w0.alloc (.cells #[] 25))) := (Below.refl _ _).alloc (Nat.le_refl _) _
  have hcl : Hid (∀ j u, (flt bs)[j]? = some u → (w0.alloc (.cells #[] 25)).cell? ((⟨g, off, none⟩ : Addr).add j) = some u) := fun j u h => by
    have := cells_upto hdd B0.out bs.length (Nat.le_refl _) j u
    rw [List.take_length] at this
    exact this h
  clear hdd
  go_wp2_with (at_builtin; go_must (refine wpList_append_own _ rfl _ _ 22 rfl w0.heap.size 25 i0 (.float .f64 0) 1 8 Try.underlying22 hi hz0 hz1 hz2 rfl (by decide) _ _ _ rfl O0.out ⟨g, off, none⟩ bs.length c0 (flt bs) rfl (by rw [flt_len]; simp) hcl.out (one_flt _) (by unfold maxLen; omega) (by omega) (by simp) ?_))
  intro v1 w1 hown1 hgrow1 _
  have O1 : Hid (w1.ownsRow w0.heap.size 25 1 v1 bs.length (flt bs)) := hown1
  have B1 : Hid (Below w0.heap.size w0 w1) := B0.out.grown hgrow1 (by simp) (fun j hj => (O0.out.lt j hj).1)
  have z1 := B1.out.size
  clear hown1 hgrow1 O0 hcl B0
  have hcn : Hid (∀ j u, [Value.float .f64 0, Value.float .f64 0][j]? = some u → (w1.alloc (.cells #[.float .f64 0, .float .f64 0] 25)).cell? ((⟨w1.heap.size, 0, none⟩ : Addr).add j) = some u) := fun j u h => by
    rw [Go.WideShapes.add_plain, Nat.zero_add, World.cell?_alloc_at _ _ _ _ rfl]
    simpa using h
  go_wp2_with (at_builtin; go_must (refine wpList_append_own _ rfl _ _ 22 rfl w0.heap.size 25 i0 (.float .f64 0) 1 8 Try.underlying22 hi hz0 hz1 hz2 rfl (by decide) _ _ _ rfl (O1.out.alloc _) ⟨w1.heap.size, 0, none⟩ 2 2 [.float .f64 0, .float .f64 0] rfl rfl hcn.out (by simp [Value.oneCell']) (by unfold maxLen; omega) (by omega) (by simp; omega) ?_))
  intro v2 w2 hown2 hgrow2 _
  have O2 : Hid (w2.ownsRow w0.heap.size 25 1 v2 (bs.length + 2) (flt bs ++ [.float .f64 0, .float .f64 0])) := hown2
  have B2 : Hid (Below w0.heap.size w0 w2) := (B1.out.alloc z1 _).grown hgrow2 (by simp; omega) (fun j hj => (O1.out.lt j hj).1)
  clear hown2 hgrow2 hcn O1
  go_wp2
  exact hK.out _ _ _ B2.out O2.out ⟨rfl, rfl, rfl, rfl, rfl, rfl, trivial⟩
set_option maxRecDepth 100000 in
set_option maxHeartbeats 1000000 in
theorem or_11 {Q : Exit → Act → World → Prop} (L vb vt vn : Value) (xa : Nat) (a : Act) (w0 : World) (k25 : Calls Try.prog 25 #[L] w0 fun e w' => e = .returned (.tuple #[.float .f64 xa, .int .i64 0]) ∧ Below w0.heap.size w0 w')
    (hK : Hid (∀ a w2, Below w0.heap.size w0 w2 → At 109 [(0, L), (5, vb), (7, vt), (8, vn), (9, .float .f64 xa)] a → Code.wp Try.prog (sq 8 body6) Q a w2)) (ha : At 109 [(0, L), (5, vb), (7, vt), (8, vn)] a) : Code.wp Try.prog (sq 7 body6) Q a w0 := by
  obtain ⟨f, rfl, h0, h5, h7, h8, -⟩ := ha.lit
  change Code.wp _ _ _ ⟨#[f 0, f 1, f 2, f 3, f 4, f 5, f 6, f 7, f 8, f 9, f 10, f 11, f 12, f 13, f 14, f 15, f 16, f 17, f 18, f 19, f 20, f 21, f 22, f 23, f 24, f 25, f 26, f 27, f 28, f 29, f 30, f 31, f 32, f 33, f 34, f 35, f 36, f 37, f 38, f 39, f 40, f 41, f 42, f 43, f 44, f 45, f 46, f 47, f 48, f 49, f 50, f 51, f 52, f 53, f 54, f 55, f 56, f 57, f 58, f 59, f 60, f 61, f 62, f 63, f 64, f 65, f 66, f 67, f 68, f 69, f 70, f 71, f 72, f 73, f 74, f 75, f 76, f 77, f 78, f 79, f 80, f 81, f 82, f 83, f 84, f 85, f 86, f 87, f 88, f 89, f 90, f 91, f 92, f 93, f 94, f 95, f 96, f 97, f 98, f 99, f 100, f 101, f 102, f 103, f 104, f 105, f 106, f 107, f 108], []⟩ _
  simp only at h0 h5 h7 h8
  simp only [h0, h5, h7, h8]
  clear h0 h5 h7 h8
  change Code.wp _ (Code.seq (hd (sq 7 body6)) (sq 8 body6)) _ _ _
  generalize sq 8 body6 = REST at hK ⊢
  conv => arg 2; arg 1; whnf
  go_wp2_with fail
  refine k25.mono ?_
  rintro e w1 ⟨rfl, b1⟩
  go_wp2
  exact hK.out _ _ b1 ⟨rfl, rfl, rfl, rfl, rfl, rfl, rfl, trivial⟩
set_option maxRecDepth 100000 in
set_option maxHeartbeats 1000000 in
theorem or_12 {Q : Exit → Act → World → Prop} (L vb vt vn : Value) (xa xb : Nat) (a : Act) (w0 : World) (k25 : Calls Try.prog 25 #[vb] w0 fun e w' => e = .returned (.tuple #[.float .f64 xb, .int .i64 0]) ∧ Below w0.heap.size w0 w')
    (hK : Hid (∀ a w2, Below w0.heap.size w0 w2 → At 109 [(0, L), (5, vb), (7, vt), (8, vn), (9, .float .f64 xa), (11, .float .f64 xb)] a → Code.wp Try.prog (sq 9 body6) Q a w2)) (ha : At 109 [(0, L), (5, vb), (7, vt), (8, vn), (9, .float .f64 xa)] a) : Code.wp Try.prog (sq 8 body6) Q a w0 := by
  obtain ⟨f, rfl, h0, h5, h7, h8, h9, -⟩ := ha.lit
  change Code.wp _ _ _ ⟨#[f 0, f 1, f 2, f 3, f 4, f 5, f 6, f 7, f 8, f 9, f 10, f 11, f 12, f 13, f 14, f 15, f 16, f 17, f 18, f 19, f 20, f 21, f 22, f 23, f 24, f 25, f 26, f 27, f 28, f 29, f 30, f 31, f 32, f 33, f 34, f 35, f 36, f 37, f 38, f 39, f 40, f 41, f 42, f 43, f 44, f 45, f 46, f 47, f 48, f 49, f 50, f 51, f 52, f 53, f 54, f 55, f 56, f 57, f 58, f 59, f 60, f 61, f 62, f 63, f 64, f 65, f 66, f 67, f 68, f 69, f 70, f 71, f 72, f 73, f 74, f 75, f 76, f 77, f 78, f 79, f 80, f 81, f 82, f 83, f 84, f 85, f 86, f 87, f 88, f 89, f 90, f 91, f 92, f 93, f 94, f 95, f 96, f 97, f 98, f 99, f 100, f 101, f 102, f 103, f 104, f 105, f 106, f 107, f 108], []⟩ _
  simp only at h0 h5 h7 h8 h9
  simp only [h0, h5, h7, h8, h9]
  clear h0 h5 h7 h8 h9
  change Code.wp _ (Code.seq (hd (sq 8 body6)) (sq 9 body6)) _ _ _
  generalize sq 9 body6 = REST at hK ⊢
  conv => arg 2; arg 1; whnf
  go_wp2_with fail
  refine k25.mono ?_
  rintro e w1 ⟨rfl, b1⟩
  go_wp2
  exact hK.out _ _ b1 ⟨rfl, rfl, rfl, rfl, rfl, rfl, rfl, rfl, trivial⟩
set_option maxRecDepth 100000 in
set_option maxHeartbeats 1000000 in
theorem or_13 {Q : Exit → Act → World → Prop} (L vb vt vn : Value) (xa xb xc : Nat) (a : Act) (w0 : World) (k25 : Calls Try.prog 25 #[vt] w0 fun e w' => e = .returned (.tuple #[.float .f64 xc, .int .i64 0]) ∧ Below w0.heap.size w0 w')
    (hK : Hid (∀ a w2, Below w0.heap.size w0 w2 → At 109 [(0, L), (5, vb), (7, vt), (8, vn), (9, .float .f64 xa), (11, .float .f64 xb), (13, .float .f64 xc)] a → Code.wp Try.prog (sq 10 body6) Q a w2)) (ha : At 109 [(0, L), (5, vb), (7, vt), (8, vn), (9, .float .f64 xa), (11, .float .f64 xb)] a) : Code.wp Try.prog (sq 9 body6) Q a w0 := by
  obtain ⟨f, rfl, h0, h5, h7, h8, h9, h11, -⟩ := ha.lit
  change Code.wp _ _ _ ⟨#[f 0, f 1, f 2, f 3, f 4, f 5, f 6, f 7, f 8, f 9, f 10, f 11, f 12, f 13, f 14, f 15, f 16, f 17, f 18, f 19, f 20, f 21, f 22, f 23, f 24, f 25, f 26, f 27, f 28, f 29, f 30, f 31, f 32, f 33, f 34, f 35, f 36, f 37, f 38, f 39, f 40, f 41, f 42, f 43, f 44, f 45, f 46, f 47, f 48, f 49, f 50, f 51, f 52, f 53, f 54, f 55, f 56, f 57, f 58, f 59, f 60, f 61, f 62, f 63, f 64, f 65, f 66, f 67, f 68, f 69, f 70, f 71, f 72, f 73, f 74, f 75, f 76, f 77, f 78, f 79, f 80, f 81, f 82, f 83, f 84, f 85, f 86, f 87, f 88, f 89, f 90, f 91, f 92, f 93, f 94, f 95, f 96, f 97, f 98, f 99, f 100, f 101, f 102, f 103, f 104, f 105, f 106, f 107, f 108], []⟩ _
  simp only at h0 h5 h7 h8 h9 h11
  simp only [h0, h5, h7, h8, h9, h11]
  clear h0 h5 h7 h8 h9 h11
  change Code.wp _ (Code.seq (hd (sq 9 body6)) (sq 10 body6)) _ _ _
  generalize sq 10 body6 = REST at hK ⊢
  conv => arg 2; arg 1; whnf
  go_wp2_with fail
  refine k25.mono ?_
  rintro e w1 ⟨rfl, b1⟩
  go_wp2
  exact hK.out _ _ b1 ⟨rfl, rfl, rfl, rfl, rfl, rfl, rfl, rfl, rfl, trivial⟩
set_option maxRecDepth 100000 in
set_option maxHeartbeats 1000000 in
theorem or_14 {Q : Exit → Act → World → Prop} (L vb vt vn : Value) (xa xb xc xd : Nat) (a : Act) (w0 : World) (k25 : Calls Try.prog 25 #[vn] w0 fun e w' => e = .returned (.tuple #[.float .f64 xd, .int .i64 0]) ∧ Below w0.heap.size w0 w')
    (hK : Hid (∀ a w2, Below w0.heap.size w0 w2 → At 109 [(9, .float .f64 xa), (11, .float .f64 xb), (13, .float .f64 xc), (15, .float .f64 xd)] a → Code.wp Try.prog (sq 11 body6) Q a w2)) (ha : At 109 [(0, L), (5, vb), (7, vt), (8, vn), (9, .float .f64 xa), (11, .float .f64 xb), (13, .float .f64 xc)] a) : Code.wp Try.prog (sq 10 body6) Q a w0 := by
  obtain ⟨f, rfl, h0, h5, h7, h8, h9, h11, h13, -⟩ := ha.lit
  change Code.wp _ _ _ ⟨#[f 0, f 1, f 2, f 3, f 4, f 5, f 6, f 7, f 8, f 9, f 10, f 11, f 12, f 13, f 14, f 15, f 16, f 17, f 18, f 19, f 20, f 21, f 22, f 23, f 24, f 25, f 26, f 27, f 28, f 29, f 30, f 31, f 32, f 33, f 34, f 35, f 36, f 37, f 38, f 39, f 40, f 41, f 42, f 43, f 44, f 45, f 46, f 47, f 48, f 49, f 50, f 51, f 52, f 53, f 54, f 55, f 56, f 57, f 58, f 59, f 60, f 61, f 62, f 63, f 64, f 65, f 66, f 67, f 68, f 69, f 70, f 71, f 72, f 73, f 74, f 75, f 76, f 77, f 78, f 79, f 80, f 81, f 82, f 83, f 84, f 85, f 86, f 87, f 88, f 89, f 90, f 91, f 92, f 93, f 94, f 95, f 96, f 97, f 98, f 99, f 100, f 101, f 102, f 103, f 104, f 105, f 106, f 107, f 108], []⟩ _
  simp only at h0 h5 h7 h8 h9 h11 h13
  simp only [h0, h5, h7, h8, h9, h11, h13]
  clear h0 h5 h7 h8 h9 h11 h13
  change Code.wp _ (Code.seq (hd (sq 10 body6)) (sq 11 body6)) _ _ _
  generalize sq 11 body6 = REST at hK ⊢
  conv => arg 2; arg 1; whnf
  go_wp2_with fail
  refine k25.mono ?_
  rintro e w1 ⟨rfl, b1⟩
  go_wp2
  exact hK.out _ _ b1 ⟨rfl, rfl, rfl, rfl, rfl, rfl, trivial⟩
set_option maxRecDepth 100000 in
set_option maxHeartbeats 1000000 in
theorem or_15 {Q : Ending → World → Prop} (xa xb xc xd : Nat) (a : Act) (w0 : World) (hab : (nan64 xa = true ∧ nan64 xb = true) ∨ (xa = xb ∧ nan64 xa = false)) (hac : (nan64 xa = true ∧ nan64 xc = true) ∨ (xa = xc ∧ nan64 xa = false)) (had : (FloatKind.f64.format.order xa xd = some .eq) ∨ (FloatKind.f64.format.order xa xd = none ∧ FloatKind.f64.format.order xa xa = none ∧ FloatKind.f64.format.order xd xd = none))
    (hK : Hid (∀ w2, Below w0.heap.size w0 w2 → Q (.returned (.bool true)) w2)) (ha : At 109 [(9, .float .f64 xa), (11, .float .f64 xb), (13, .float .f64 xc), (15, .float .f64 xd)] a) : Code.wp Try.prog (sq 11 body6) (bodyPost Try.prog Try.f6 Q) a w0 := by
  have k1 := fun w => same_any xa xb w hab
  have k2 := fun w => same_any xa xc w hac
  clear hab hac
  obtain ⟨f, rfl, h9, h11, h13, h15, -⟩ := ha.lit
  change Code.wp _ _ _ ⟨#[f 0, f 1, f 2, f 3, f 4, f 5, f 6, f 7, f 8, f 9, f 10, f 11, f 12, f 13, f 14, f 15, f 16, f 17, f 18, f 19, f 20, f 21, f 22, f 23, f 24, f 25, f 26, f 27, f 28, f 29, f 30, f 31, f 32, f 33, f 34, f 35, f 36, f 37, f 38, f 39, f 40, f 41, f 42, f 43, f 44, f 45, f 46, f 47, f 48, f 49, f 50, f 51, f 52, f 53, f 54, f 55, f 56, f 57, f 58, f 59, f 60, f 61, f 62, f 63, f 64, f 65, f 66, f 67, f 68, f 69, f 70, f 71, f 72, f 73, f 74, f 75, f 76, f 77, f 78, f 79, f 80, f 81, f 82, f 83, f 84, f 85, f 86, f 87, f 88, f 89, f 90, f 91, f 92, f 93, f 94, f 95, f 96, f 97, f 98, f 99, f 100, f 101, f 102, f 103, f 104, f 105, f 106, f 107, f 108], []⟩ _
  simp only at h9 h11 h13 h15
  simp only [h9, h11, h13, h15]
  clear h9 h11 h13 h15
  conv => arg 2; whnf
  go_wp2_with fail
  refine (awake_any _).mono ?_
  rintro e w1 ⟨rfl, b1⟩
  replace b1 : Hid (Below w0.heap.size w0 w1) := b1
  go_wp2_with fail
  refine (k1 _).mono ?_
  rintro e w2 ⟨rfl, rfl⟩
  go_wp2_with fail
  refine (k2 _).mono ?_
  rintro e w3 ⟨rfl, rfl⟩
  rcases had with had | ⟨h1, h2, h3⟩
  · go_wp2
    exact hK.out _ b1.out
  · go_wp2
    exact hK.out _ b1.out
end Go.Proofs.Ytdhfkdopcphjlaa
