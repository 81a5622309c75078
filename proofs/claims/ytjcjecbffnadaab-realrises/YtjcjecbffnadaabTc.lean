/-
  The document's Rounded, piece by piece: its loops. Conditions: the size's three numbers are not too great.
-/
import Derived.Test.YtjcjecbffnadaabTa
import Derived.Deep.LoopGhost
namespace Go.Proofs.Ytjcjecbffnadaab
open Go.RowKit
set_option maxRecDepth 100000 in
set_option maxHeartbeats 2000000 in
theorem rE {Q : Exit → Act → World → Prop} {p : Nat} {bi : Int} {K : Nat} (ng : Bool) (g P P2 : Nat) (LOW : Int) (h1 : 1 ≤ p) (h2 : p ≤ 52) (hLb1 : -2000 ≤ LOW) (hLb2 : LOW ≤ 2000) (hP : IntKind.u64.wrap ((2 : Int) ^ p) = P) (_hP2 : IntKind.u64.wrap ((2 : Int) ^ (p + 1)) = P2) (hPa : (1 : Int) ≤ P) (hPb : (P : Int) ≤ 9007199254740992) (a : Act) (w : World) (r : Hid (w.heap[g]? = some (.cells #[.int .i64 p, .int .i64 K, .int .i64 bi] 30 (0, 0)))) (N1 t : Nat) (y : Int) (s h : Bool) (hy1 : -40000 ≤ y) (hy2 : y ≤ 40000) (ht : (t : Int) ≤ 20000) (_hN : (N1 : Int) < 18446744073709551616)
    (hgo2 : Hid (∀ i, i < t → (0 < N1 * 2 ^ i ∧ N1 * 2 ^ i < P ∧ LOW < y - i ∧ h = false ∧ s = false)))
    (hend : Hid (N1 * 2 ^ t < 18446744073709551615 ∧ (N1 * 2 ^ t = 0 ∨ P ≤ N1 * 2 ^ t ∨ y - t ≤ LOW ∨ h = true ∨ s = true)))
    (hK : Hid (∀ a, At 157 [(0, .bool ng), (1, .int .u64 ((N1 * 2 ^ t : Nat) : Int)), (2, .int .i64 (y - t)), (3, .bool s), (12, .bool h), (9, .pointer (some ⟨g, 0, none⟩))] a → Code.wp Try.prog (sq 5 body37) Q a w)) (ha : At 157 [(0, .bool ng), (1, .int .u64 (N1 : Int)), (2, .int .i64 y), (3, .bool s), (9, .pointer (some ⟨g, 0, none⟩)), (11, .int .i64 LOW), (12, .bool h)] a) :
    Code.wp Try.prog (sq 4 body37) Q a w := by
  change Code.wp _ (Code.seq (hd (sq 4 body37)) (sq 5 body37)) _ _ _
  generalize sq 5 body37 = REST at hK ⊢
  conv => arg 2; arg 1; whnf
  refine wp_seq_k fun K0 hK0 => ?_
  refine wp_block ?_
  refine wp_loop_ghost_k (fun m a w' => ∃ i : Nat, i ≤ t ∧ m = t - i ∧ At 157 [(0, .bool ng), (1, .int .u64 ((N1 * 2 ^ i : Nat) : Int)), (2, .int .i64 (y - i)), (3, .bool s), (9, .pointer (some ⟨g, 0, none⟩)), (11, .int .i64 LOW), (12, .bool h)] a ∧ w' = w) t ⟨0, Nat.zero_le _, rfl, by simpa using ha, rfl⟩ ?_
  rintro m a w' ⟨i, hi, rfl, ha, rfl⟩ J K1 hJ hK1
  obtain ⟨m0, m1, m2⟩ := cells3 r.out
  have hpu0 : IntKind.u64.wrap (p : Int) = p := u64_small p (by omega)
  by_cases c2 : i < t
  · obtain ⟨b1, b2, b3, b4, b5⟩ := hgo2.out i c2
    subst b4
    subst b5
    have hnew : N1 * 2 ^ (i + 1) = N1 * 2 ^ i * 2 := by rw [Nat.pow_succ, Nat.mul_assoc]
    generalize ha' : N1 * 2 ^ (i + 1) = a' at *
    generalize N1 * 2 ^ i = b at *
    have hmul : IntKind.u64.wrap ((b : Int) * 2) = (a' : Int) := by
      have := u64_small (b * 2) (by omega)
      rw [Int.natCast_mul] at this
      rw [hnew, Int.natCast_mul]
      exact this
    have ha' := show Hid _ from ha'
    have u1 : (0 : Int) < b := by omega
    have u2 : (b : Int) < P := by omega
    have hzb : -80000 ≤ y - (i : Int) ∧ y - (i : Int) ≤ 80000 := by omega
    obtain ⟨hz1, hz2⟩ := hzb
    generalize hz : y - (i : Int) = z at *
    have hz := show Hid _ from hz
    have hJ := show Hid _ from hJ
    have hc2 := show Hid _ from c2
    clear hnew b1 b2 hgo2 hend hK hK0 hi ht c2 _hN hy1 hy2
    obtain ⟨f, rfl, h0, h1, h2, h3, h9, h11, h12, -⟩ := ha.lit
    change Code.wp _ _ _ ⟨#[f 0, f 1, f 2, f 3, f 4, f 5, f 6, f 7, f 8, f 9, f 10, f 11, f 12, f 13, f 14, f 15, f 16, f 17, f 18, f 19, f 20, f 21, f 22, f 23, f 24, f 25, f 26, f 27, f 28, f 29, f 30, f 31, f 32, f 33, f 34, f 35, f 36, f 37, f 38, f 39, f 40, f 41, f 42, f 43, f 44, f 45, f 46, f 47, f 48, f 49, f 50, f 51, f 52, f 53, f 54, f 55, f 56, f 57, f 58, f 59, f 60, f 61, f 62, f 63, f 64, f 65, f 66, f 67, f 68, f 69, f 70, f 71, f 72, f 73, f 74, f 75, f 76, f 77, f 78, f 79, f 80, f 81, f 82, f 83, f 84, f 85, f 86, f 87, f 88, f 89, f 90, f 91, f 92, f 93, f 94, f 95, f 96, f 97, f 98, f 99, f 100, f 101, f 102, f 103, f 104, f 105, f 106, f 107, f 108, f 109, f 110, f 111, f 112, f 113, f 114, f 115, f 116, f 117, f 118, f 119, f 120, f 121, f 122, f 123, f 124, f 125, f 126, f 127, f 128, f 129, f 130, f 131, f 132, f 133, f 134, f 135, f 136, f 137, f 138, f 139, f 140, f 141, f 142, f 143, f 144, f 145, f 146, f 147, f 148, f 149, f 150, f 151, f 152, f 153, f 154, f 155, f 156], []⟩ _
    simp only at h0 h1 h2 h3 h9 h11 h12
    simp only [h0, h1, h2, h3, h9, h11, h12]
    clear h0 h1 h2 h3 h9 h11 h12
    go_wp2
    exact Handed.intro (t - (i + 1)) (by have := hc2.out; omega) (hJ.out _ _ _ ⟨i + 1, hc2.out, rfl, by rw [ha'.out, show y - ((i + 1 : Nat) : Int) = z - 1 by have := hz.out; omega]; exact ⟨rfl, rfl, rfl, rfl, rfl, rfl, rfl, rfl, rfl, trivial⟩, rfl⟩)
  · have hit : i = t := by omega
    subst hit
    obtain ⟨e1, e2⟩ := hend.out
    have hzb : -80000 ≤ y - (i : Int) ∧ y - (i : Int) ≤ 80000 := by omega
    obtain ⟨hz1, hz2⟩ := hzb
    generalize hz : y - (i : Int) = z at *
    generalize hNN : N1 * 2 ^ i = NN at *
    have hz := show Hid _ from hz
    have hNN := show Hid _ from hNN
    clear hgo2 hend c2 hi _hN hJ hK1 ht hy1 hy2
    obtain ⟨f, rfl, h0, h1, h2, h3, h9, h11, h12, -⟩ := ha.lit
    change Code.wp _ _ _ ⟨#[f 0, f 1, f 2, f 3, f 4, f 5, f 6, f 7, f 8, f 9, f 10, f 11, f 12, f 13, f 14, f 15, f 16, f 17, f 18, f 19, f 20, f 21, f 22, f 23, f 24, f 25, f 26, f 27, f 28, f 29, f 30, f 31, f 32, f 33, f 34, f 35, f 36, f 37, f 38, f 39, f 40, f 41, f 42, f 43, f 44, f 45, f 46, f 47, f 48, f 49, f 50, f 51, f 52, f 53, f 54, f 55, f 56, f 57, f 58, f 59, f 60, f 61, f 62, f 63, f 64, f 65, f 66, f 67, f 68, f 69, f 70, f 71, f 72, f 73, f 74, f 75, f 76, f 77, f 78, f 79, f 80, f 81, f 82, f 83, f 84, f 85, f 86, f 87, f 88, f 89, f 90, f 91, f 92, f 93, f 94, f 95, f 96, f 97, f 98, f 99, f 100, f 101, f 102, f 103, f 104, f 105, f 106, f 107, f 108, f 109, f 110, f 111, f 112, f 113, f 114, f 115, f 116, f 117, f 118, f 119, f 120, f 121, f 122, f 123, f 124, f 125, f 126, f 127, f 128, f 129, f 130, f 131, f 132, f 133, f 134, f 135, f 136, f 137, f 138, f 139, f 140, f 141, f 142, f 143, f 144, f 145, f 146, f 147, f 148, f 149, f 150, f 151, f 152, f 153, f 154, f 155, f 156], []⟩ _
    simp only at h0 h1 h2 h3 h9 h11 h12
    simp only [h0, h1, h2, h3, h9, h11, h12]
    clear h0 h1 h2 h3 h9 h11 h12
    by_cases u1 : NN = 0
    · have u1' : (NN : Int) = 0 := by omega
      clear e1 e2
      go_wp2
      exact hK.out _ ⟨rfl, rfl, rfl, rfl, rfl, rfl, rfl, rfl, trivial⟩
    by_cases u2 : P ≤ NN
    · have u1' : (0 : Int) < (NN : Int) := by omega
      have u2' : (P : Int) ≤ (NN : Int) := by omega
      clear e1 e2 u1 u2
      go_wp2
      exact hK.out _ ⟨rfl, rfl, rfl, rfl, rfl, rfl, rfl, rfl, trivial⟩
    have u1' : (0 : Int) < (NN : Int) := by omega
    have u2' : (NN : Int) < (P : Int) := by omega
    by_cases u3 : z ≤ LOW
    · clear e1 e2 u1 u2
      go_wp2
      exact hK.out _ ⟨rfl, rfl, rfl, rfl, rfl, rfl, rfl, rfl, trivial⟩
    have u3' : LOW < z := by omega
    have e3 : h = true ∨ s = true := by
      rcases e2 with q | q | q | q
      · omega
      · omega
      · omega
      · exact q
    clear e1 e2 u1 u2 u3
    cases h
    · have e4 : s = true := by simpa using e3
      subst e4
      clear e3
      go_wp2
      exact hK.out _ ⟨rfl, rfl, rfl, rfl, rfl, rfl, rfl, rfl, trivial⟩
    · clear e3
      go_wp2
      exact hK.out _ ⟨rfl, rfl, rfl, rfl, rfl, rfl, rfl, rfl, trivial⟩
set_option maxRecDepth 100000 in
set_option maxHeartbeats 2000000 in
theorem rF {Q : Exit → Act → World → Prop} {p : Nat} {bi : Int} {K : Nat} (ng : Bool) (g P P2 : Nat) (LOW : Int) (h1 : 1 ≤ p) (h2 : p ≤ 52) (_hLb1 : -2000 ≤ LOW) (_hLb2 : LOW ≤ 2000) (_hP : IntKind.u64.wrap ((2 : Int) ^ p) = P) (hP2 : IntKind.u64.wrap ((2 : Int) ^ (p + 1)) = P2) (_hPa : (1 : Int) ≤ P) (_hPb : (P : Int) ≤ 9007199254740992) (a : Act) (w : World) (r : Hid (w.heap[g]? = some (.cells #[.int .i64 p, .int .i64 K, .int .i64 bi] 30 (0, 0)))) (n J : Nat) (e : Int) (st : Bool) (hn : n < 18446744073709551616) (he1 : -10000 ≤ e) (he2 : e ≤ 10000) (hJ0 : (J : Int) ≤ 20000)
    (hgo : Hid (∀ j, j < J → (P2 ≤ n / 2 ^ j) ∨ (e + j < LOW ∧ (0 < n / 2 ^ j ∨ hfN n j = true ∨ skN n j = true))))
    (hend : Hid (n / 2 ^ J < P2 ∧ ¬ e + J < LOW))
    (hK : Hid (∀ a w', Below w.heap.size w w' → w'.heap[g]? = some (.cells #[.int .i64 p, .int .i64 K, .int .i64 bi] 30 (0, 0)) → At 157 [(0, .bool ng), (1, .int .u64 ((n / 2 ^ J : Nat) : Int)), (2, .int .i64 (e + J)), (3, .bool (st || skN n J)), (9, .pointer (some ⟨g, 0, none⟩)), (11, .int .i64 LOW), (12, .bool (hfN n J))] a → Code.wp Try.prog (sq 4 body37) Q a w')) (ha : At 157 [(0, .bool ng), (1, .int .u64 (n : Int)), (2, .int .i64 e), (3, .bool st), (9, .pointer (some ⟨g, 0, none⟩)), (11, .int .i64 LOW), (12, .bool false)] a) :
    Code.wp Try.prog (sq 3 body37) Q a w := by
  change Code.wp _ (Code.seq (hd (sq 3 body37)) (sq 4 body37)) _ _ _
  generalize sq 4 body37 = REST at hK ⊢
  conv => arg 2; arg 1; whnf
  refine wp_seq_k fun K0 hK0 => ?_
  refine wp_block ?_
  refine wp_loop_ghost_k (fun m a w' => ∃ j : Nat, j ≤ J ∧ m = J - j ∧ At 157 [(0, .bool ng), (1, .int .u64 ((n / 2 ^ j : Nat) : Int)), (2, .int .i64 (e + j)), (3, .bool (st || skN n j)), (9, .pointer (some ⟨g, 0, none⟩)), (11, .int .i64 LOW), (12, .bool (hfN n j))] a ∧ Below w.heap.size w w' ∧ w'.heap[g]? = some (.cells #[.int .i64 p, .int .i64 K, .int .i64 bi] 30 (0, 0))) J ⟨0, Nat.zero_le _, rfl, by simpa [skN, hfN] using ha, Below.refl _ _, r.out⟩ ?_
  rintro m a wr ⟨j, hj, rfl, ha, B, r⟩ J0 K1 hJ hK1
  have B := show Hid _ from B
  have r := show Hid _ from r
  obtain ⟨m0, m1, m2⟩ := cells3 r.out
  have hal : n / 2 ^ j < 18446744073709551616 := Nat.lt_of_le_of_lt (Nat.div_le_self _ _) hn
  have hyb : -40000 ≤ e + (j : Int) ∧ e + (j : Int) ≤ 40000 := by omega
  obtain ⟨hy1, hy2⟩ := hyb
  by_cases c : j < J
  · have hc3 := hgo.out j c
    have hnew : n / 2 ^ (j + 1) = n / 2 ^ j / 2 := by rw [Nat.pow_succ, Nat.div_div_eq_div_mul]
    have hs1 : Hid ((st || skN n (j + 1)) = ((st || skN n j) || hfN n j)) := by
      show (st || (skN n j || hfN n j)) = _
      rw [Bool.or_assoc]
    have hh1 : Hid (hfN n (j + 1) = (n / 2 ^ j % 2 == 1)) := rfl
    have hbit := bitE _ hal
    have hdiv : ((n / 2 ^ j : Nat) : Int).tdiv 2 = ((n / 2 ^ (j + 1) : Nat) : Int) := by
      rw [Int.tdiv_eq_ediv_of_nonneg (Int.natCast_nonneg _), hnew, Int.natCast_ediv]; rfl
    have hwa := u64_small (n / 2 ^ (j + 1)) (by have := Nat.div_le_self n (2 ^ (j + 1)); omega)
    have hc4 : P2 ≤ n / 2 ^ j ∨ (e + j < LOW ∧ (0 < n / 2 ^ j ∨ hfN n j = true ∨ (st || skN n j) = true)) := by
      rcases hc3 with q | ⟨q1, q2 | q2 | q2⟩
      · exact .inl q
      · exact .inr ⟨q1, .inl q2⟩
      · exact .inr ⟨q1, .inr (.inl q2)⟩
      · exact .inr ⟨q1, .inr (.inr (by rw [q2, Bool.or_true]))⟩
    generalize ha' : n / 2 ^ (j + 1) = a' at *
    generalize n / 2 ^ j = b at *
    generalize (st || skN n j) = s at *
    generalize hfN n j = f0 at *
    generalize (b % 2 == 1) = f' at *
    have ha' := show Hid _ from ha'
    have hal : (b : Int) < 18446744073709551616 := by omega
    generalize hy : e + (j : Int) = y at *
    have hy := show Hid _ from hy
    have hc := show Hid _ from c
    have hJ := show Hid _ from hJ
    clear hgo hend hnew hK hK0 hc3 hj c hJ0 hn he1 he2
    obtain ⟨f, rfl, h0, h1, h2, h3, h9, h11, h12, -⟩ := ha.lit
    change Code.wp _ _ _ ⟨#[f 0, f 1, f 2, f 3, f 4, f 5, f 6, f 7, f 8, f 9, f 10, f 11, f 12, f 13, f 14, f 15, f 16, f 17, f 18, f 19, f 20, f 21, f 22, f 23, f 24, f 25, f 26, f 27, f 28, f 29, f 30, f 31, f 32, f 33, f 34, f 35, f 36, f 37, f 38, f 39, f 40, f 41, f 42, f 43, f 44, f 45, f 46, f 47, f 48, f 49, f 50, f 51, f 52, f 53, f 54, f 55, f 56, f 57, f 58, f 59, f 60, f 61, f 62, f 63, f 64, f 65, f 66, f 67, f 68, f 69, f 70, f 71, f 72, f 73, f 74, f 75, f 76, f 77, f 78, f 79, f 80, f 81, f 82, f 83, f 84, f 85, f 86, f 87, f 88, f 89, f 90, f 91, f 92, f 93, f 94, f 95, f 96, f 97, f 98, f 99, f 100, f 101, f 102, f 103, f 104, f 105, f 106, f 107, f 108, f 109, f 110, f 111, f 112, f 113, f 114, f 115, f 116, f 117, f 118, f 119, f 120, f 121, f 122, f 123, f 124, f 125, f 126, f 127, f 128, f 129, f 130, f 131, f 132, f 133, f 134, f 135, f 136, f 137, f 138, f 139, f 140, f 141, f 142, f 143, f 144, f 145, f 146, f 147, f 148, f 149, f 150, f 151, f 152, f 153, f 154, f 155, f 156], []⟩ _
    simp only at h0 h1 h2 h3 h9 h11 h12
    simp only [h0, h1, h2, h3, h9, h11, h12]
    clear h0 h1 h2 h3 h9 h11 h12
    by_cases cA : (P2 : Int) ≤ (b : Int)
    · clear hc4
      cases s
      · go_wp2
        exact Handed.intro (J - (j + 1)) (by have := hc.out; omega) (hJ.out _ _ _ ⟨j + 1, hc.out, rfl, by rw [ha'.out, hs1.out, hh1.out, show e + ((j + 1 : Nat) : Int) = y + 1 by have := hy.out; omega]; exact ⟨rfl, rfl, rfl, rfl, rfl, rfl, rfl, rfl, rfl, trivial⟩, B.out, r.out⟩)
      · go_wp2
        exact Handed.intro (J - (j + 1)) (by have := hc.out; omega) (hJ.out _ _ _ ⟨j + 1, hc.out, rfl, by rw [ha'.out, hs1.out, hh1.out, show e + ((j + 1 : Nat) : Int) = y + 1 by have := hy.out; omega]; exact ⟨rfl, rfl, rfl, rfl, rfl, rfl, rfl, rfl, rfl, trivial⟩, B.out, r.out⟩)
    · have hc2 : y < LOW ∧ (0 < b ∨ f0 = true ∨ s = true) := by
        rcases hc4 with hc | hc
        · omega
        · exact hc
      obtain ⟨q2, hc5⟩ := hc2
      have cA' : (b : Int) < (P2 : Int) := by omega
      clear hc4 cA
      by_cases q3 : (0 : Int) < (b : Int)
      · clear hc5
        have q1 : ¬ (P2 : Int) ≤ (b : Int) := by omega
        have hp1 : IntKind.i64.wrap ((p : Int) + 1) = (p : Int) + 1 := i64_in _ (by omega) (by omega)
        have hpu : IntKind.u64.wrap ((p : Int) + 1) = (p : Int) + 1 := by rw [u64_wrap']; omega
        have hpt : ((p : Int) + 1).toNat = p + 1 := by omega
        have q3n : 0 < b := by omega
        clear m0 m1 m2 cA'
        cases s
        · skip
          refine wp_seq (wp_seq ?_)
          refine wp_region_vals (a1 := ?a1r3n1) (grown _) [.int .u64 b, .pointer (some ⟨g, 0, none⟩), .int .i64 p, .int .i64 (p + 1), .int .u64 (IntKind.u64.wrap (p + 1)), .int .u64 P2, .bool false, .bool false, .int .i64 y, .int .i64 LOW, .bool true, .bool true, .int .u64 b, .bool true, .bool true, undef, .bool true, .bool true, undef, .bool true, .bool true, .bool true] 157 rfl (by kernel_rfl) (by kernel_rfl) (grown_start _) ⟨?o0r3n1, ?o1r3n1, ?o2r3n1, ?o3r3n1, ?o4r3n1, ?o5r3n1, ?o6r3n1, ?o7r3n1, ?o8r3n1, ?o9r3n1, ?o10r3n1, ?o11r3n1, ?o12r3n1, ?o13r3n1, ?o14r3n1, ?o15r3n1, ?o16r3n1, ?o17r3n1, ?o18r3n1, ?o19r3n1, ?o20r3n1, ?o21r3n1, trivial⟩ ?har3n1 ?hdoner3n1
          case har3n1 => simp [putAll, Act.put]; exact rfl
          case o0r3n1 => exact ValOp.pure (grown_steady _ 0) [(1, .int .u64 b)] rfl (fun _ _ h2 => ⟨(h2 1 (by kernel_rfl)).trans rfl, trivial⟩) (by kernel_rfl) (fun _ _ _ _ _ => by kernel_rfl)
          case o1r3n1 => exact ValOp.pure (grown_steady _ 1) [(9, .pointer (some ⟨g, 0, none⟩))] rfl (fun _ _ h2 => ⟨(h2 9 (by kernel_rfl)).trans rfl, trivial⟩) (by kernel_rfl) (fun _ _ _ _ _ => by kernel_rfl)
          case o2r3n1 => exact ValOp.pure (grown_steady _ 2) [(21, .pointer (some ⟨g, 0, none⟩))] rfl (fun _ h1 _ => ⟨h1 1 21 (by kernel_rfl), trivial⟩) (by kernel_rfl) (fun _ _ _ hg _ => run_read rfl rfl (run_cell (below_at r.out hg) rfl (Try.isAgg3 _)))
          case o3r3n1 => exact ValOp.pure (grown_steady _ 3) [(22, .int .i64 p)] rfl (fun _ h1 _ => ⟨h1 2 22 (by kernel_rfl), trivial⟩) (by kernel_rfl) (fun _ _ _ _ _ => run_bin (a := .int .i64 p) (b := .int .i64 1) rfl rfl rfl (by kernel_rfl) (by simp [go_sem, hp1]))
          case o4r3n1 => exact ValOp.pure (grown_steady _ 4) [(23, .int .i64 (p + 1))] rfl (fun _ h1 _ => ⟨h1 3 23 (by kernel_rfl), trivial⟩) (by kernel_rfl) (fun _ _ _ _ _ => by kernel_rfl)
          case o5r3n1 => exact ValOp.pure (grown_steady _ 5) [(24, .int .u64 (IntKind.u64.wrap (p + 1)))] rfl (fun _ h1 _ => ⟨h1 4 24 (by kernel_rfl), trivial⟩) (by kernel_rfl) (fun _ _ _ _ _ => run_bin (a := .int .u64 1) (b := .int .u64 (IntKind.u64.wrap (p + 1))) rfl rfl rfl (by kernel_rfl) (by simp [go_sem, hpu, hpt, hP2]))
          case o6r3n1 => exact ValOp.pure (grown_steady _ 6) [(20, .int .u64 b), (25, .int .u64 P2)] rfl (fun _ h1 _ => ⟨h1 0 20 (by kernel_rfl), h1 5 25 (by kernel_rfl), trivial⟩) (by kernel_rfl) (fun _ _ _ _ _ => run_bin (a := .int .u64 b) (b := .int .u64 P2) rfl rfl rfl (by kernel_rfl) (by simp [go_sem, q1]))
          case o7r3n1 => exact ValOp.pure (grown_steady _ 7) [(26, .bool false)] rfl (fun _ h1 _ => ⟨h1 6 26 (by kernel_rfl), trivial⟩) (by kernel_rfl) (fun _ _ _ _ _ => by kernel_rfl)
          case o8r3n1 => exact ValOp.pure (grown_steady _ 8) [(2, .int .i64 y)] ⟨27, _, rfl, rfl, by kernel_rfl, rfl⟩ (fun _ _ h2 => ⟨(h2 2 (by kernel_rfl)).trans rfl, trivial⟩) (by kernel_rfl) (fun _ _ _ _ _ => by kernel_rfl)
          case o9r3n1 => exact ValOp.pure (grown_steady _ 9) [(11, .int .i64 LOW)] ⟨27, _, rfl, rfl, by kernel_rfl, rfl⟩ (fun _ _ h2 => ⟨(h2 11 (by kernel_rfl)).trans rfl, trivial⟩) (by kernel_rfl) (fun _ _ _ _ _ => by kernel_rfl)
          case o10r3n1 => exact ValOp.pure (grown_steady _ 10) [(28, .int .i64 y), (29, .int .i64 LOW)] ⟨27, _, rfl, rfl, by kernel_rfl, rfl⟩ (fun _ h1 _ => ⟨h1 8 28 (by kernel_rfl), h1 9 29 (by kernel_rfl), trivial⟩) (by kernel_rfl) (fun _ _ _ _ _ => run_bin (a := .int .i64 y) (b := .int .i64 LOW) rfl rfl rfl (by kernel_rfl) (by simp [go_sem, q2]))
          case o11r3n1 => exact ValOp.pure (grown_steady _ 11) [(30, .bool true)] ⟨27, _, rfl, rfl, by kernel_rfl, rfl⟩ (fun _ h1 _ => ⟨h1 10 30 (by kernel_rfl), trivial⟩) (by kernel_rfl) (fun _ _ _ _ _ => by kernel_rfl)
          case o12r3n1 => exact ValOp.pure (grown_steady _ 12) [(1, .int .u64 b)] ⟨31, _, rfl, rfl, by kernel_rfl, rfl⟩ (fun _ _ h2 => ⟨(h2 1 (by kernel_rfl)).trans rfl, trivial⟩) (by kernel_rfl) (fun _ _ _ _ _ => by kernel_rfl)
          case o13r3n1 => exact ValOp.pure (grown_steady _ 13) [(32, .int .u64 b)] ⟨31, _, rfl, rfl, by kernel_rfl, rfl⟩ (fun _ h1 _ => ⟨h1 12 32 (by kernel_rfl), trivial⟩) (by kernel_rfl) (fun _ _ _ _ _ => run_bin (a := .int .u64 b) (b := .int .u64 0) rfl rfl rfl (by kernel_rfl) (by simp [go_sem, q3n]))
          case o14r3n1 => exact ValOp.pure (grown_steady _ 14) [(33, .bool true)] ⟨31, _, rfl, rfl, by kernel_rfl, rfl⟩ (fun _ h1 _ => ⟨h1 13 33 (by kernel_rfl), trivial⟩) (by kernel_rfl) (fun _ _ _ _ _ => by kernel_rfl)
          case o15r3n1 => exact ValOp.no (grown_steady _ 15) ⟨34, _, rfl, rfl, by kernel_rfl, rfl⟩ rfl
          case o16r3n1 => exact ValOp.pure (grown_steady _ 16) [(34, .bool true), (35, undef)] ⟨31, _, rfl, rfl, by kernel_rfl, rfl⟩ (fun _ h1 _ => ⟨h1 14 34 (by kernel_rfl), h1 15 35 (by kernel_rfl), trivial⟩) (by kernel_rfl) (fun _ _ _ _ _ => by kernel_rfl)
          case o17r3n1 => exact ValOp.pure (grown_steady _ 17) [(36, .bool true)] ⟨31, _, rfl, rfl, by kernel_rfl, rfl⟩ (fun _ h1 _ => ⟨h1 16 36 (by kernel_rfl), trivial⟩) (by kernel_rfl) (fun _ _ _ _ _ => by kernel_rfl)
          case o18r3n1 => exact ValOp.no (grown_steady _ 18) ⟨37, _, rfl, rfl, by kernel_rfl, rfl⟩ rfl
          case o19r3n1 => exact ValOp.pure (grown_steady _ 19) [(37, .bool true), (38, undef)] ⟨31, _, rfl, rfl, by kernel_rfl, rfl⟩ (fun _ h1 _ => ⟨h1 17 37 (by kernel_rfl), h1 18 38 (by kernel_rfl), trivial⟩) (by kernel_rfl) (fun _ _ _ _ _ => by kernel_rfl)
          case o20r3n1 => exact ValOp.pure (grown_steady _ 20) [(31, .bool true), (39, .bool true)] ⟨27, _, rfl, rfl, by kernel_rfl, rfl⟩ (fun _ h1 _ => ⟨h1 11 31 (by kernel_rfl), h1 19 39 (by kernel_rfl), trivial⟩) (by kernel_rfl) (fun _ _ _ _ _ => by kernel_rfl)
          case o21r3n1 => exact ValOp.pure (grown_steady _ 21) [(27, .bool false), (40, .bool true)] rfl (fun _ h1 _ => ⟨h1 7 27 (by kernel_rfl), h1 20 40 (by kernel_rfl), trivial⟩) (by kernel_rfl) (fun _ _ _ _ _ => by kernel_rfl)
          intro w1 s1 _ bb
          replace bb : Below _ _ w1 := bb
          have B1 : Hid (Below w.heap.size w w1) := B.out.trans (bb.mono B.out.size)
          have r1 : Hid (w1.heap[g]? = some (.cells #[.int .i64 p, .int .i64 K, .int .i64 bi] 30 (0, 0))) := below_at r.out bb
          clear bb hp1 hpu hpt q1 q2 q3 q3n
          refine wp_of_then ?_
          go_wp2
          exact Handed.intro (J - (j + 1)) (by have := hc.out; omega) (hJ.out _ _ _ ⟨j + 1, hc.out, rfl, by rw [ha'.out, hs1.out, hh1.out, show e + ((j + 1 : Nat) : Int) = y + 1 by have := hy.out; omega]; exact ⟨rfl, rfl, rfl, rfl, rfl, rfl, rfl, rfl, rfl, trivial⟩, B1.out, r1.out⟩)
        · skip
          refine wp_seq (wp_seq ?_)
          refine wp_region_vals (a1 := ?a1r3n2) (grown _) [.int .u64 b, .pointer (some ⟨g, 0, none⟩), .int .i64 p, .int .i64 (p + 1), .int .u64 (IntKind.u64.wrap (p + 1)), .int .u64 P2, .bool false, .bool false, .int .i64 y, .int .i64 LOW, .bool true, .bool true, .int .u64 b, .bool true, .bool true, undef, .bool true, .bool true, undef, .bool true, .bool true, .bool true] 157 rfl (by kernel_rfl) (by kernel_rfl) (grown_start _) ⟨?o0r3n2, ?o1r3n2, ?o2r3n2, ?o3r3n2, ?o4r3n2, ?o5r3n2, ?o6r3n2, ?o7r3n2, ?o8r3n2, ?o9r3n2, ?o10r3n2, ?o11r3n2, ?o12r3n2, ?o13r3n2, ?o14r3n2, ?o15r3n2, ?o16r3n2, ?o17r3n2, ?o18r3n2, ?o19r3n2, ?o20r3n2, ?o21r3n2, trivial⟩ ?har3n2 ?hdoner3n2
          case har3n2 => simp [putAll, Act.put]; exact rfl
          case o0r3n2 => exact ValOp.pure (grown_steady _ 0) [(1, .int .u64 b)] rfl (fun _ _ h2 => ⟨(h2 1 (by kernel_rfl)).trans rfl, trivial⟩) (by kernel_rfl) (fun _ _ _ _ _ => by kernel_rfl)
          case o1r3n2 => exact ValOp.pure (grown_steady _ 1) [(9, .pointer (some ⟨g, 0, none⟩))] rfl (fun _ _ h2 => ⟨(h2 9 (by kernel_rfl)).trans rfl, trivial⟩) (by kernel_rfl) (fun _ _ _ _ _ => by kernel_rfl)
          case o2r3n2 => exact ValOp.pure (grown_steady _ 2) [(21, .pointer (some ⟨g, 0, none⟩))] rfl (fun _ h1 _ => ⟨h1 1 21 (by kernel_rfl), trivial⟩) (by kernel_rfl) (fun _ _ _ hg _ => run_read rfl rfl (run_cell (below_at r.out hg) rfl (Try.isAgg3 _)))
          case o3r3n2 => exact ValOp.pure (grown_steady _ 3) [(22, .int .i64 p)] rfl (fun _ h1 _ => ⟨h1 2 22 (by kernel_rfl), trivial⟩) (by kernel_rfl) (fun _ _ _ _ _ => run_bin (a := .int .i64 p) (b := .int .i64 1) rfl rfl rfl (by kernel_rfl) (by simp [go_sem, hp1]))
          case o4r3n2 => exact ValOp.pure (grown_steady _ 4) [(23, .int .i64 (p + 1))] rfl (fun _ h1 _ => ⟨h1 3 23 (by kernel_rfl), trivial⟩) (by kernel_rfl) (fun _ _ _ _ _ => by kernel_rfl)
          case o5r3n2 => exact ValOp.pure (grown_steady _ 5) [(24, .int .u64 (IntKind.u64.wrap (p + 1)))] rfl (fun _ h1 _ => ⟨h1 4 24 (by kernel_rfl), trivial⟩) (by kernel_rfl) (fun _ _ _ _ _ => run_bin (a := .int .u64 1) (b := .int .u64 (IntKind.u64.wrap (p + 1))) rfl rfl rfl (by kernel_rfl) (by simp [go_sem, hpu, hpt, hP2]))
          case o6r3n2 => exact ValOp.pure (grown_steady _ 6) [(20, .int .u64 b), (25, .int .u64 P2)] rfl (fun _ h1 _ => ⟨h1 0 20 (by kernel_rfl), h1 5 25 (by kernel_rfl), trivial⟩) (by kernel_rfl) (fun _ _ _ _ _ => run_bin (a := .int .u64 b) (b := .int .u64 P2) rfl rfl rfl (by kernel_rfl) (by simp [go_sem, q1]))
          case o7r3n2 => exact ValOp.pure (grown_steady _ 7) [(26, .bool false)] rfl (fun _ h1 _ => ⟨h1 6 26 (by kernel_rfl), trivial⟩) (by kernel_rfl) (fun _ _ _ _ _ => by kernel_rfl)
          case o8r3n2 => exact ValOp.pure (grown_steady _ 8) [(2, .int .i64 y)] ⟨27, _, rfl, rfl, by kernel_rfl, rfl⟩ (fun _ _ h2 => ⟨(h2 2 (by kernel_rfl)).trans rfl, trivial⟩) (by kernel_rfl) (fun _ _ _ _ _ => by kernel_rfl)
          case o9r3n2 => exact ValOp.pure (grown_steady _ 9) [(11, .int .i64 LOW)] ⟨27, _, rfl, rfl, by kernel_rfl, rfl⟩ (fun _ _ h2 => ⟨(h2 11 (by kernel_rfl)).trans rfl, trivial⟩) (by kernel_rfl) (fun _ _ _ _ _ => by kernel_rfl)
          case o10r3n2 => exact ValOp.pure (grown_steady _ 10) [(28, .int .i64 y), (29, .int .i64 LOW)] ⟨27, _, rfl, rfl, by kernel_rfl, rfl⟩ (fun _ h1 _ => ⟨h1 8 28 (by kernel_rfl), h1 9 29 (by kernel_rfl), trivial⟩) (by kernel_rfl) (fun _ _ _ _ _ => run_bin (a := .int .i64 y) (b := .int .i64 LOW) rfl rfl rfl (by kernel_rfl) (by simp [go_sem, q2]))
          case o11r3n2 => exact ValOp.pure (grown_steady _ 11) [(30, .bool true)] ⟨27, _, rfl, rfl, by kernel_rfl, rfl⟩ (fun _ h1 _ => ⟨h1 10 30 (by kernel_rfl), trivial⟩) (by kernel_rfl) (fun _ _ _ _ _ => by kernel_rfl)
          case o12r3n2 => exact ValOp.pure (grown_steady _ 12) [(1, .int .u64 b)] ⟨31, _, rfl, rfl, by kernel_rfl, rfl⟩ (fun _ _ h2 => ⟨(h2 1 (by kernel_rfl)).trans rfl, trivial⟩) (by kernel_rfl) (fun _ _ _ _ _ => by kernel_rfl)
          case o13r3n2 => exact ValOp.pure (grown_steady _ 13) [(32, .int .u64 b)] ⟨31, _, rfl, rfl, by kernel_rfl, rfl⟩ (fun _ h1 _ => ⟨h1 12 32 (by kernel_rfl), trivial⟩) (by kernel_rfl) (fun _ _ _ _ _ => run_bin (a := .int .u64 b) (b := .int .u64 0) rfl rfl rfl (by kernel_rfl) (by simp [go_sem, q3n]))
          case o14r3n2 => exact ValOp.pure (grown_steady _ 14) [(33, .bool true)] ⟨31, _, rfl, rfl, by kernel_rfl, rfl⟩ (fun _ h1 _ => ⟨h1 13 33 (by kernel_rfl), trivial⟩) (by kernel_rfl) (fun _ _ _ _ _ => by kernel_rfl)
          case o15r3n2 => exact ValOp.no (grown_steady _ 15) ⟨34, _, rfl, rfl, by kernel_rfl, rfl⟩ rfl
          case o16r3n2 => exact ValOp.pure (grown_steady _ 16) [(34, .bool true), (35, undef)] ⟨31, _, rfl, rfl, by kernel_rfl, rfl⟩ (fun _ h1 _ => ⟨h1 14 34 (by kernel_rfl), h1 15 35 (by kernel_rfl), trivial⟩) (by kernel_rfl) (fun _ _ _ _ _ => by kernel_rfl)
          case o17r3n2 => exact ValOp.pure (grown_steady _ 17) [(36, .bool true)] ⟨31, _, rfl, rfl, by kernel_rfl, rfl⟩ (fun _ h1 _ => ⟨h1 16 36 (by kernel_rfl), trivial⟩) (by kernel_rfl) (fun _ _ _ _ _ => by kernel_rfl)
          case o18r3n2 => exact ValOp.no (grown_steady _ 18) ⟨37, _, rfl, rfl, by kernel_rfl, rfl⟩ rfl
          case o19r3n2 => exact ValOp.pure (grown_steady _ 19) [(37, .bool true), (38, undef)] ⟨31, _, rfl, rfl, by kernel_rfl, rfl⟩ (fun _ h1 _ => ⟨h1 17 37 (by kernel_rfl), h1 18 38 (by kernel_rfl), trivial⟩) (by kernel_rfl) (fun _ _ _ _ _ => by kernel_rfl)
          case o20r3n2 => exact ValOp.pure (grown_steady _ 20) [(31, .bool true), (39, .bool true)] ⟨27, _, rfl, rfl, by kernel_rfl, rfl⟩ (fun _ h1 _ => ⟨h1 11 31 (by kernel_rfl), h1 19 39 (by kernel_rfl), trivial⟩) (by kernel_rfl) (fun _ _ _ _ _ => by kernel_rfl)
          case o21r3n2 => exact ValOp.pure (grown_steady _ 21) [(27, .bool false), (40, .bool true)] rfl (fun _ h1 _ => ⟨h1 7 27 (by kernel_rfl), h1 20 40 (by kernel_rfl), trivial⟩) (by kernel_rfl) (fun _ _ _ _ _ => by kernel_rfl)
          intro w1 s1 _ bb
          replace bb : Below _ _ w1 := bb
          have B1 : Hid (Below w.heap.size w w1) := B.out.trans (bb.mono B.out.size)
          have r1 : Hid (w1.heap[g]? = some (.cells #[.int .i64 p, .int .i64 K, .int .i64 bi] 30 (0, 0))) := below_at r.out bb
          clear bb hp1 hpu hpt q1 q2 q3 q3n
          refine wp_of_then ?_
          go_wp2
          exact Handed.intro (J - (j + 1)) (by have := hc.out; omega) (hJ.out _ _ _ ⟨j + 1, hc.out, rfl, by rw [ha'.out, hs1.out, hh1.out, show e + ((j + 1 : Nat) : Int) = y + 1 by have := hy.out; omega]; exact ⟨rfl, rfl, rfl, rfl, rfl, rfl, rfl, rfl, rfl, trivial⟩, B1.out, r1.out⟩)
      · have hc6 : f0 = true ∨ s = true := by
          rcases hc5 with h | h
          · omega
          · exact h
        have q1 : ¬ (P2 : Int) ≤ (b : Int) := by omega
        have hp1 : IntKind.i64.wrap ((p : Int) + 1) = (p : Int) + 1 := i64_in _ (by omega) (by omega)
        have hpu : IntKind.u64.wrap ((p : Int) + 1) = (p : Int) + 1 := by rw [u64_wrap']; omega
        have hpt : ((p : Int) + 1).toNat = p + 1 := by omega
        have q3n : b = 0 := by omega
        clear hc5 m0 m1 m2 cA'
        cases f0
        · have hs : s = true := by simpa using hc6
          subst hs
          clear hc6
          refine wp_seq (wp_seq ?_)
          refine wp_region_vals (a1 := ?a1r3n3) (grown _) [.int .u64 b, .pointer (some ⟨g, 0, none⟩), .int .i64 p, .int .i64 (p + 1), .int .u64 (IntKind.u64.wrap (p + 1)), .int .u64 P2, .bool false, .bool false, .int .i64 y, .int .i64 LOW, .bool true, .bool true, .int .u64 b, .bool false, .bool false, .bool false, .bool false, .bool false, .bool true, .bool true, .bool true, .bool true] 157 rfl (by kernel_rfl) (by kernel_rfl) (grown_start _) ⟨?o0r3n3, ?o1r3n3, ?o2r3n3, ?o3r3n3, ?o4r3n3, ?o5r3n3, ?o6r3n3, ?o7r3n3, ?o8r3n3, ?o9r3n3, ?o10r3n3, ?o11r3n3, ?o12r3n3, ?o13r3n3, ?o14r3n3, ?o15r3n3, ?o16r3n3, ?o17r3n3, ?o18r3n3, ?o19r3n3, ?o20r3n3, ?o21r3n3, trivial⟩ ?har3n3 ?hdoner3n3
          case har3n3 => simp [putAll, Act.put]; exact rfl
          case o0r3n3 => exact ValOp.pure (grown_steady _ 0) [(1, .int .u64 b)] rfl (fun _ _ h2 => ⟨(h2 1 (by kernel_rfl)).trans rfl, trivial⟩) (by kernel_rfl) (fun _ _ _ _ _ => by kernel_rfl)
          case o1r3n3 => exact ValOp.pure (grown_steady _ 1) [(9, .pointer (some ⟨g, 0, none⟩))] rfl (fun _ _ h2 => ⟨(h2 9 (by kernel_rfl)).trans rfl, trivial⟩) (by kernel_rfl) (fun _ _ _ _ _ => by kernel_rfl)
          case o2r3n3 => exact ValOp.pure (grown_steady _ 2) [(21, .pointer (some ⟨g, 0, none⟩))] rfl (fun _ h1 _ => ⟨h1 1 21 (by kernel_rfl), trivial⟩) (by kernel_rfl) (fun _ _ _ hg _ => run_read rfl rfl (run_cell (below_at r.out hg) rfl (Try.isAgg3 _)))
          case o3r3n3 => exact ValOp.pure (grown_steady _ 3) [(22, .int .i64 p)] rfl (fun _ h1 _ => ⟨h1 2 22 (by kernel_rfl), trivial⟩) (by kernel_rfl) (fun _ _ _ _ _ => run_bin (a := .int .i64 p) (b := .int .i64 1) rfl rfl rfl (by kernel_rfl) (by simp [go_sem, hp1]))
          case o4r3n3 => exact ValOp.pure (grown_steady _ 4) [(23, .int .i64 (p + 1))] rfl (fun _ h1 _ => ⟨h1 3 23 (by kernel_rfl), trivial⟩) (by kernel_rfl) (fun _ _ _ _ _ => by kernel_rfl)
          case o5r3n3 => exact ValOp.pure (grown_steady _ 5) [(24, .int .u64 (IntKind.u64.wrap (p + 1)))] rfl (fun _ h1 _ => ⟨h1 4 24 (by kernel_rfl), trivial⟩) (by kernel_rfl) (fun _ _ _ _ _ => run_bin (a := .int .u64 1) (b := .int .u64 (IntKind.u64.wrap (p + 1))) rfl rfl rfl (by kernel_rfl) (by simp [go_sem, hpu, hpt, hP2]))
          case o6r3n3 => exact ValOp.pure (grown_steady _ 6) [(20, .int .u64 b), (25, .int .u64 P2)] rfl (fun _ h1 _ => ⟨h1 0 20 (by kernel_rfl), h1 5 25 (by kernel_rfl), trivial⟩) (by kernel_rfl) (fun _ _ _ _ _ => run_bin (a := .int .u64 b) (b := .int .u64 P2) rfl rfl rfl (by kernel_rfl) (by simp [go_sem, q1]))
          case o7r3n3 => exact ValOp.pure (grown_steady _ 7) [(26, .bool false)] rfl (fun _ h1 _ => ⟨h1 6 26 (by kernel_rfl), trivial⟩) (by kernel_rfl) (fun _ _ _ _ _ => by kernel_rfl)
          case o8r3n3 => exact ValOp.pure (grown_steady _ 8) [(2, .int .i64 y)] ⟨27, _, rfl, rfl, by kernel_rfl, rfl⟩ (fun _ _ h2 => ⟨(h2 2 (by kernel_rfl)).trans rfl, trivial⟩) (by kernel_rfl) (fun _ _ _ _ _ => by kernel_rfl)
          case o9r3n3 => exact ValOp.pure (grown_steady _ 9) [(11, .int .i64 LOW)] ⟨27, _, rfl, rfl, by kernel_rfl, rfl⟩ (fun _ _ h2 => ⟨(h2 11 (by kernel_rfl)).trans rfl, trivial⟩) (by kernel_rfl) (fun _ _ _ _ _ => by kernel_rfl)
          case o10r3n3 => exact ValOp.pure (grown_steady _ 10) [(28, .int .i64 y), (29, .int .i64 LOW)] ⟨27, _, rfl, rfl, by kernel_rfl, rfl⟩ (fun _ h1 _ => ⟨h1 8 28 (by kernel_rfl), h1 9 29 (by kernel_rfl), trivial⟩) (by kernel_rfl) (fun _ _ _ _ _ => run_bin (a := .int .i64 y) (b := .int .i64 LOW) rfl rfl rfl (by kernel_rfl) (by simp [go_sem, q2]))
          case o11r3n3 => exact ValOp.pure (grown_steady _ 11) [(30, .bool true)] ⟨27, _, rfl, rfl, by kernel_rfl, rfl⟩ (fun _ h1 _ => ⟨h1 10 30 (by kernel_rfl), trivial⟩) (by kernel_rfl) (fun _ _ _ _ _ => by kernel_rfl)
          case o12r3n3 => exact ValOp.pure (grown_steady _ 12) [(1, .int .u64 b)] ⟨31, _, rfl, rfl, by kernel_rfl, rfl⟩ (fun _ _ h2 => ⟨(h2 1 (by kernel_rfl)).trans rfl, trivial⟩) (by kernel_rfl) (fun _ _ _ _ _ => by kernel_rfl)
          case o13r3n3 => exact ValOp.pure (grown_steady _ 13) [(32, .int .u64 b)] ⟨31, _, rfl, rfl, by kernel_rfl, rfl⟩ (fun _ h1 _ => ⟨h1 12 32 (by kernel_rfl), trivial⟩) (by kernel_rfl) (fun _ _ _ _ _ => run_bin (a := .int .u64 b) (b := .int .u64 0) rfl rfl rfl (by kernel_rfl) (by simp [go_sem, q3n]))
          case o14r3n3 => exact ValOp.pure (grown_steady _ 14) [(33, .bool false)] ⟨31, _, rfl, rfl, by kernel_rfl, rfl⟩ (fun _ h1 _ => ⟨h1 13 33 (by kernel_rfl), trivial⟩) (by kernel_rfl) (fun _ _ _ _ _ => by kernel_rfl)
          case o15r3n3 => exact ValOp.pure (grown_steady _ 15) [(12, .bool false)] ⟨34, _, rfl, rfl, by kernel_rfl, rfl⟩ (fun _ _ h2 => ⟨(h2 12 (by kernel_rfl)).trans rfl, trivial⟩) (by kernel_rfl) (fun _ _ _ _ _ => by kernel_rfl)
          case o16r3n3 => exact ValOp.pure (grown_steady _ 16) [(34, .bool false), (35, .bool false)] ⟨31, _, rfl, rfl, by kernel_rfl, rfl⟩ (fun _ h1 _ => ⟨h1 14 34 (by kernel_rfl), h1 15 35 (by kernel_rfl), trivial⟩) (by kernel_rfl) (fun _ _ _ _ _ => by kernel_rfl)
          case o17r3n3 => exact ValOp.pure (grown_steady _ 17) [(36, .bool false)] ⟨31, _, rfl, rfl, by kernel_rfl, rfl⟩ (fun _ h1 _ => ⟨h1 16 36 (by kernel_rfl), trivial⟩) (by kernel_rfl) (fun _ _ _ _ _ => by kernel_rfl)
          case o18r3n3 => exact ValOp.pure (grown_steady _ 18) [(3, .bool true)] ⟨37, _, rfl, rfl, by kernel_rfl, rfl⟩ (fun _ _ h2 => ⟨(h2 3 (by kernel_rfl)).trans rfl, trivial⟩) (by kernel_rfl) (fun _ _ _ _ _ => by kernel_rfl)
          case o19r3n3 => exact ValOp.pure (grown_steady _ 19) [(37, .bool false), (38, .bool true)] ⟨31, _, rfl, rfl, by kernel_rfl, rfl⟩ (fun _ h1 _ => ⟨h1 17 37 (by kernel_rfl), h1 18 38 (by kernel_rfl), trivial⟩) (by kernel_rfl) (fun _ _ _ _ _ => by kernel_rfl)
          case o20r3n3 => exact ValOp.pure (grown_steady _ 20) [(31, .bool true), (39, .bool true)] ⟨27, _, rfl, rfl, by kernel_rfl, rfl⟩ (fun _ h1 _ => ⟨h1 11 31 (by kernel_rfl), h1 19 39 (by kernel_rfl), trivial⟩) (by kernel_rfl) (fun _ _ _ _ _ => by kernel_rfl)
          case o21r3n3 => exact ValOp.pure (grown_steady _ 21) [(27, .bool false), (40, .bool true)] rfl (fun _ h1 _ => ⟨h1 7 27 (by kernel_rfl), h1 20 40 (by kernel_rfl), trivial⟩) (by kernel_rfl) (fun _ _ _ _ _ => by kernel_rfl)
          intro w1 s1 _ bb
          replace bb : Below _ _ w1 := bb
          have B1 : Hid (Below w.heap.size w w1) := B.out.trans (bb.mono B.out.size)
          have r1 : Hid (w1.heap[g]? = some (.cells #[.int .i64 p, .int .i64 K, .int .i64 bi] 30 (0, 0))) := below_at r.out bb
          clear bb hp1 hpu hpt q1 q2 q3 q3n
          refine wp_of_then ?_
          go_wp2
          exact Handed.intro (J - (j + 1)) (by have := hc.out; omega) (hJ.out _ _ _ ⟨j + 1, hc.out, rfl, by rw [ha'.out, hs1.out, hh1.out, show e + ((j + 1 : Nat) : Int) = y + 1 by have := hy.out; omega]; exact ⟨rfl, rfl, rfl, rfl, rfl, rfl, rfl, rfl, rfl, trivial⟩, B1.out, r1.out⟩)
        · clear hc6
          cases s
          · skip
            refine wp_seq (wp_seq ?_)
            refine wp_region_vals (a1 := ?a1r3n4) (grown _) [.int .u64 b, .pointer (some ⟨g, 0, none⟩), .int .i64 p, .int .i64 (p + 1), .int .u64 (IntKind.u64.wrap (p + 1)), .int .u64 P2, .bool false, .bool false, .int .i64 y, .int .i64 LOW, .bool true, .bool true, .int .u64 b, .bool false, .bool false, .bool true, .bool true, .bool true, undef, .bool true, .bool true, .bool true] 157 rfl (by kernel_rfl) (by kernel_rfl) (grown_start _) ⟨?o0r3n4, ?o1r3n4, ?o2r3n4, ?o3r3n4, ?o4r3n4, ?o5r3n4, ?o6r3n4, ?o7r3n4, ?o8r3n4, ?o9r3n4, ?o10r3n4, ?o11r3n4, ?o12r3n4, ?o13r3n4, ?o14r3n4, ?o15r3n4, ?o16r3n4, ?o17r3n4, ?o18r3n4, ?o19r3n4, ?o20r3n4, ?o21r3n4, trivial⟩ ?har3n4 ?hdoner3n4
            case har3n4 => simp [putAll, Act.put]; exact rfl
            case o0r3n4 => exact ValOp.pure (grown_steady _ 0) [(1, .int .u64 b)] rfl (fun _ _ h2 => ⟨(h2 1 (by kernel_rfl)).trans rfl, trivial⟩) (by kernel_rfl) (fun _ _ _ _ _ => by kernel_rfl)
            case o1r3n4 => exact ValOp.pure (grown_steady _ 1) [(9, .pointer (some ⟨g, 0, none⟩))] rfl (fun _ _ h2 => ⟨(h2 9 (by kernel_rfl)).trans rfl, trivial⟩) (by kernel_rfl) (fun _ _ _ _ _ => by kernel_rfl)
            case o2r3n4 => exact ValOp.pure (grown_steady _ 2) [(21, .pointer (some ⟨g, 0, none⟩))] rfl (fun _ h1 _ => ⟨h1 1 21 (by kernel_rfl), trivial⟩) (by kernel_rfl) (fun _ _ _ hg _ => run_read rfl rfl (run_cell (below_at r.out hg) rfl (Try.isAgg3 _)))
            case o3r3n4 => exact ValOp.pure (grown_steady _ 3) [(22, .int .i64 p)] rfl (fun _ h1 _ => ⟨h1 2 22 (by kernel_rfl), trivial⟩) (by kernel_rfl) (fun _ _ _ _ _ => run_bin (a := .int .i64 p) (b := .int .i64 1) rfl rfl rfl (by kernel_rfl) (by simp [go_sem, hp1]))
            case o4r3n4 => exact ValOp.pure (grown_steady _ 4) [(23, .int .i64 (p + 1))] rfl (fun _ h1 _ => ⟨h1 3 23 (by kernel_rfl), trivial⟩) (by kernel_rfl) (fun _ _ _ _ _ => by kernel_rfl)
            case o5r3n4 => exact ValOp.pure (grown_steady _ 5) [(24, .int .u64 (IntKind.u64.wrap (p + 1)))] rfl (fun _ h1 _ => ⟨h1 4 24 (by kernel_rfl), trivial⟩) (by kernel_rfl) (fun _ _ _ _ _ => run_bin (a := .int .u64 1) (b := .int .u64 (IntKind.u64.wrap (p + 1))) rfl rfl rfl (by kernel_rfl) (by simp [go_sem, hpu, hpt, hP2]))
            case o6r3n4 => exact ValOp.pure (grown_steady _ 6) [(20, .int .u64 b), (25, .int .u64 P2)] rfl (fun _ h1 _ => ⟨h1 0 20 (by kernel_rfl), h1 5 25 (by kernel_rfl), trivial⟩) (by kernel_rfl) (fun _ _ _ _ _ => run_bin (a := .int .u64 b) (b := .int .u64 P2) rfl rfl rfl (by kernel_rfl) (by simp [go_sem, q1]))
            case o7r3n4 => exact ValOp.pure (grown_steady _ 7) [(26, .bool false)] rfl (fun _ h1 _ => ⟨h1 6 26 (by kernel_rfl), trivial⟩) (by kernel_rfl) (fun _ _ _ _ _ => by kernel_rfl)
            case o8r3n4 => exact ValOp.pure (grown_steady _ 8) [(2, .int .i64 y)] ⟨27, _, rfl, rfl, by kernel_rfl, rfl⟩ (fun _ _ h2 => ⟨(h2 2 (by kernel_rfl)).trans rfl, trivial⟩) (by kernel_rfl) (fun _ _ _ _ _ => by kernel_rfl)
            case o9r3n4 => exact ValOp.pure (grown_steady _ 9) [(11, .int .i64 LOW)] ⟨27, _, rfl, rfl, by kernel_rfl, rfl⟩ (fun _ _ h2 => ⟨(h2 11 (by kernel_rfl)).trans rfl, trivial⟩) (by kernel_rfl) (fun _ _ _ _ _ => by kernel_rfl)
            case o10r3n4 => exact ValOp.pure (grown_steady _ 10) [(28, .int .i64 y), (29, .int .i64 LOW)] ⟨27, _, rfl, rfl, by kernel_rfl, rfl⟩ (fun _ h1 _ => ⟨h1 8 28 (by kernel_rfl), h1 9 29 (by kernel_rfl), trivial⟩) (by kernel_rfl) (fun _ _ _ _ _ => run_bin (a := .int .i64 y) (b := .int .i64 LOW) rfl rfl rfl (by kernel_rfl) (by simp [go_sem, q2]))
            case o11r3n4 => exact ValOp.pure (grown_steady _ 11) [(30, .bool true)] ⟨27, _, rfl, rfl, by kernel_rfl, rfl⟩ (fun _ h1 _ => ⟨h1 10 30 (by kernel_rfl), trivial⟩) (by kernel_rfl) (fun _ _ _ _ _ => by kernel_rfl)
            case o12r3n4 => exact ValOp.pure (grown_steady _ 12) [(1, .int .u64 b)] ⟨31, _, rfl, rfl, by kernel_rfl, rfl⟩ (fun _ _ h2 => ⟨(h2 1 (by kernel_rfl)).trans rfl, trivial⟩) (by kernel_rfl) (fun _ _ _ _ _ => by kernel_rfl)
            case o13r3n4 => exact ValOp.pure (grown_steady _ 13) [(32, .int .u64 b)] ⟨31, _, rfl, rfl, by kernel_rfl, rfl⟩ (fun _ h1 _ => ⟨h1 12 32 (by kernel_rfl), trivial⟩) (by kernel_rfl) (fun _ _ _ _ _ => run_bin (a := .int .u64 b) (b := .int .u64 0) rfl rfl rfl (by kernel_rfl) (by simp [go_sem, q3n]))
            case o14r3n4 => exact ValOp.pure (grown_steady _ 14) [(33, .bool false)] ⟨31, _, rfl, rfl, by kernel_rfl, rfl⟩ (fun _ h1 _ => ⟨h1 13 33 (by kernel_rfl), trivial⟩) (by kernel_rfl) (fun _ _ _ _ _ => by kernel_rfl)
            case o15r3n4 => exact ValOp.pure (grown_steady _ 15) [(12, .bool true)] ⟨34, _, rfl, rfl, by kernel_rfl, rfl⟩ (fun _ _ h2 => ⟨(h2 12 (by kernel_rfl)).trans rfl, trivial⟩) (by kernel_rfl) (fun _ _ _ _ _ => by kernel_rfl)
            case o16r3n4 => exact ValOp.pure (grown_steady _ 16) [(34, .bool false), (35, .bool true)] ⟨31, _, rfl, rfl, by kernel_rfl, rfl⟩ (fun _ h1 _ => ⟨h1 14 34 (by kernel_rfl), h1 15 35 (by kernel_rfl), trivial⟩) (by kernel_rfl) (fun _ _ _ _ _ => by kernel_rfl)
            case o17r3n4 => exact ValOp.pure (grown_steady _ 17) [(36, .bool true)] ⟨31, _, rfl, rfl, by kernel_rfl, rfl⟩ (fun _ h1 _ => ⟨h1 16 36 (by kernel_rfl), trivial⟩) (by kernel_rfl) (fun _ _ _ _ _ => by kernel_rfl)
            case o18r3n4 => exact ValOp.no (grown_steady _ 18) ⟨37, _, rfl, rfl, by kernel_rfl, rfl⟩ rfl
            case o19r3n4 => exact ValOp.pure (grown_steady _ 19) [(37, .bool true), (38, undef)] ⟨31, _, rfl, rfl, by kernel_rfl, rfl⟩ (fun _ h1 _ => ⟨h1 17 37 (by kernel_rfl), h1 18 38 (by kernel_rfl), trivial⟩) (by kernel_rfl) (fun _ _ _ _ _ => by kernel_rfl)
            case o20r3n4 => exact ValOp.pure (grown_steady _ 20) [(31, .bool true), (39, .bool true)] ⟨27, _, rfl, rfl, by kernel_rfl, rfl⟩ (fun _ h1 _ => ⟨h1 11 31 (by kernel_rfl), h1 19 39 (by kernel_rfl), trivial⟩) (by kernel_rfl) (fun _ _ _ _ _ => by kernel_rfl)
            case o21r3n4 => exact ValOp.pure (grown_steady _ 21) [(27, .bool false), (40, .bool true)] rfl (fun _ h1 _ => ⟨h1 7 27 (by kernel_rfl), h1 20 40 (by kernel_rfl), trivial⟩) (by kernel_rfl) (fun _ _ _ _ _ => by kernel_rfl)
            intro w1 s1 _ bb
            replace bb : Below _ _ w1 := bb
            have B1 : Hid (Below w.heap.size w w1) := B.out.trans (bb.mono B.out.size)
            have r1 : Hid (w1.heap[g]? = some (.cells #[.int .i64 p, .int .i64 K, .int .i64 bi] 30 (0, 0))) := below_at r.out bb
            clear bb hp1 hpu hpt q1 q2 q3 q3n
            refine wp_of_then ?_
            go_wp2
            exact Handed.intro (J - (j + 1)) (by have := hc.out; omega) (hJ.out _ _ _ ⟨j + 1, hc.out, rfl, by rw [ha'.out, hs1.out, hh1.out, show e + ((j + 1 : Nat) : Int) = y + 1 by have := hy.out; omega]; exact ⟨rfl, rfl, rfl, rfl, rfl, rfl, rfl, rfl, rfl, trivial⟩, B1.out, r1.out⟩)
          · skip
            refine wp_seq (wp_seq ?_)
            refine wp_region_vals (a1 := ?a1r3n5) (grown _) [.int .u64 b, .pointer (some ⟨g, 0, none⟩), .int .i64 p, .int .i64 (p + 1), .int .u64 (IntKind.u64.wrap (p + 1)), .int .u64 P2, .bool false, .bool false, .int .i64 y, .int .i64 LOW, .bool true, .bool true, .int .u64 b, .bool false, .bool false, .bool true, .bool true, .bool true, undef, .bool true, .bool true, .bool true] 157 rfl (by kernel_rfl) (by kernel_rfl) (grown_start _) ⟨?o0r3n5, ?o1r3n5, ?o2r3n5, ?o3r3n5, ?o4r3n5, ?o5r3n5, ?o6r3n5, ?o7r3n5, ?o8r3n5, ?o9r3n5, ?o10r3n5, ?o11r3n5, ?o12r3n5, ?o13r3n5, ?o14r3n5, ?o15r3n5, ?o16r3n5, ?o17r3n5, ?o18r3n5, ?o19r3n5, ?o20r3n5, ?o21r3n5, trivial⟩ ?har3n5 ?hdoner3n5
            case har3n5 => simp [putAll, Act.put]; exact rfl
            case o0r3n5 => exact ValOp.pure (grown_steady _ 0) [(1, .int .u64 b)] rfl (fun _ _ h2 => ⟨(h2 1 (by kernel_rfl)).trans rfl, trivial⟩) (by kernel_rfl) (fun _ _ _ _ _ => by kernel_rfl)
            case o1r3n5 => exact ValOp.pure (grown_steady _ 1) [(9, .pointer (some ⟨g, 0, none⟩))] rfl (fun _ _ h2 => ⟨(h2 9 (by kernel_rfl)).trans rfl, trivial⟩) (by kernel_rfl) (fun _ _ _ _ _ => by kernel_rfl)
            case o2r3n5 => exact ValOp.pure (grown_steady _ 2) [(21, .pointer (some ⟨g, 0, none⟩))] rfl (fun _ h1 _ => ⟨h1 1 21 (by kernel_rfl), trivial⟩) (by kernel_rfl) (fun _ _ _ hg _ => run_read rfl rfl (run_cell (below_at r.out hg) rfl (Try.isAgg3 _)))
            case o3r3n5 => exact ValOp.pure (grown_steady _ 3) [(22, .int .i64 p)] rfl (fun _ h1 _ => ⟨h1 2 22 (by kernel_rfl), trivial⟩) (by kernel_rfl) (fun _ _ _ _ _ => run_bin (a := .int .i64 p) (b := .int .i64 1) rfl rfl rfl (by kernel_rfl) (by simp [go_sem, hp1]))
            case o4r3n5 => exact ValOp.pure (grown_steady _ 4) [(23, .int .i64 (p + 1))] rfl (fun _ h1 _ => ⟨h1 3 23 (by kernel_rfl), trivial⟩) (by kernel_rfl) (fun _ _ _ _ _ => by kernel_rfl)
            case o5r3n5 => exact ValOp.pure (grown_steady _ 5) [(24, .int .u64 (IntKind.u64.wrap (p + 1)))] rfl (fun _ h1 _ => ⟨h1 4 24 (by kernel_rfl), trivial⟩) (by kernel_rfl) (fun _ _ _ _ _ => run_bin (a := .int .u64 1) (b := .int .u64 (IntKind.u64.wrap (p + 1))) rfl rfl rfl (by kernel_rfl) (by simp [go_sem, hpu, hpt, hP2]))
            case o6r3n5 => exact ValOp.pure (grown_steady _ 6) [(20, .int .u64 b), (25, .int .u64 P2)] rfl (fun _ h1 _ => ⟨h1 0 20 (by kernel_rfl), h1 5 25 (by kernel_rfl), trivial⟩) (by kernel_rfl) (fun _ _ _ _ _ => run_bin (a := .int .u64 b) (b := .int .u64 P2) rfl rfl rfl (by kernel_rfl) (by simp [go_sem, q1]))
            case o7r3n5 => exact ValOp.pure (grown_steady _ 7) [(26, .bool false)] rfl (fun _ h1 _ => ⟨h1 6 26 (by kernel_rfl), trivial⟩) (by kernel_rfl) (fun _ _ _ _ _ => by kernel_rfl)
            case o8r3n5 => exact ValOp.pure (grown_steady _ 8) [(2, .int .i64 y)] ⟨27, _, rfl, rfl, by kernel_rfl, rfl⟩ (fun _ _ h2 => ⟨(h2 2 (by kernel_rfl)).trans rfl, trivial⟩) (by kernel_rfl) (fun _ _ _ _ _ => by kernel_rfl)
            case o9r3n5 => exact ValOp.pure (grown_steady _ 9) [(11, .int .i64 LOW)] ⟨27, _, rfl, rfl, by kernel_rfl, rfl⟩ (fun _ _ h2 => ⟨(h2 11 (by kernel_rfl)).trans rfl, trivial⟩) (by kernel_rfl) (fun _ _ _ _ _ => by kernel_rfl)
            case o10r3n5 => exact ValOp.pure (grown_steady _ 10) [(28, .int .i64 y), (29, .int .i64 LOW)] ⟨27, _, rfl, rfl, by kernel_rfl, rfl⟩ (fun _ h1 _ => ⟨h1 8 28 (by kernel_rfl), h1 9 29 (by kernel_rfl), trivial⟩) (by kernel_rfl) (fun _ _ _ _ _ => run_bin (a := .int .i64 y) (b := .int .i64 LOW) rfl rfl rfl (by kernel_rfl) (by simp [go_sem, q2]))
            case o11r3n5 => exact ValOp.pure (grown_steady _ 11) [(30, .bool true)] ⟨27, _, rfl, rfl, by kernel_rfl, rfl⟩ (fun _ h1 _ => ⟨h1 10 30 (by kernel_rfl), trivial⟩) (by kernel_rfl) (fun _ _ _ _ _ => by kernel_rfl)
            case o12r3n5 => exact ValOp.pure (grown_steady _ 12) [(1, .int .u64 b)] ⟨31, _, rfl, rfl, by kernel_rfl, rfl⟩ (fun _ _ h2 => ⟨(h2 1 (by kernel_rfl)).trans rfl, trivial⟩) (by kernel_rfl) (fun _ _ _ _ _ => by kernel_rfl)
            case o13r3n5 => exact ValOp.pure (grown_steady _ 13) [(32, .int .u64 b)] ⟨31, _, rfl, rfl, by kernel_rfl, rfl⟩ (fun _ h1 _ => ⟨h1 12 32 (by kernel_rfl), trivial⟩) (by kernel_rfl) (fun _ _ _ _ _ => run_bin (a := .int .u64 b) (b := .int .u64 0) rfl rfl rfl (by kernel_rfl) (by simp [go_sem, q3n]))
            case o14r3n5 => exact ValOp.pure (grown_steady _ 14) [(33, .bool false)] ⟨31, _, rfl, rfl, by kernel_rfl, rfl⟩ (fun _ h1 _ => ⟨h1 13 33 (by kernel_rfl), trivial⟩) (by kernel_rfl) (fun _ _ _ _ _ => by kernel_rfl)
            case o15r3n5 => exact ValOp.pure (grown_steady _ 15) [(12, .bool true)] ⟨34, _, rfl, rfl, by kernel_rfl, rfl⟩ (fun _ _ h2 => ⟨(h2 12 (by kernel_rfl)).trans rfl, trivial⟩) (by kernel_rfl) (fun _ _ _ _ _ => by kernel_rfl)
            case o16r3n5 => exact ValOp.pure (grown_steady _ 16) [(34, .bool false), (35, .bool true)] ⟨31, _, rfl, rfl, by kernel_rfl, rfl⟩ (fun _ h1 _ => ⟨h1 14 34 (by kernel_rfl), h1 15 35 (by kernel_rfl), trivial⟩) (by kernel_rfl) (fun _ _ _ _ _ => by kernel_rfl)
            case o17r3n5 => exact ValOp.pure (grown_steady _ 17) [(36, .bool true)] ⟨31, _, rfl, rfl, by kernel_rfl, rfl⟩ (fun _ h1 _ => ⟨h1 16 36 (by kernel_rfl), trivial⟩) (by kernel_rfl) (fun _ _ _ _ _ => by kernel_rfl)
            case o18r3n5 => exact ValOp.no (grown_steady _ 18) ⟨37, _, rfl, rfl, by kernel_rfl, rfl⟩ rfl
            case o19r3n5 => exact ValOp.pure (grown_steady _ 19) [(37, .bool true), (38, undef)] ⟨31, _, rfl, rfl, by kernel_rfl, rfl⟩ (fun _ h1 _ => ⟨h1 17 37 (by kernel_rfl), h1 18 38 (by kernel_rfl), trivial⟩) (by kernel_rfl) (fun _ _ _ _ _ => by kernel_rfl)
            case o20r3n5 => exact ValOp.pure (grown_steady _ 20) [(31, .bool true), (39, .bool true)] ⟨27, _, rfl, rfl, by kernel_rfl, rfl⟩ (fun _ h1 _ => ⟨h1 11 31 (by kernel_rfl), h1 19 39 (by kernel_rfl), trivial⟩) (by kernel_rfl) (fun _ _ _ _ _ => by kernel_rfl)
            case o21r3n5 => exact ValOp.pure (grown_steady _ 21) [(27, .bool false), (40, .bool true)] rfl (fun _ h1 _ => ⟨h1 7 27 (by kernel_rfl), h1 20 40 (by kernel_rfl), trivial⟩) (by kernel_rfl) (fun _ _ _ _ _ => by kernel_rfl)
            intro w1 s1 _ bb
            replace bb : Below _ _ w1 := bb
            have B1 : Hid (Below w.heap.size w w1) := B.out.trans (bb.mono B.out.size)
            have r1 : Hid (w1.heap[g]? = some (.cells #[.int .i64 p, .int .i64 K, .int .i64 bi] 30 (0, 0))) := below_at r.out bb
            clear bb hp1 hpu hpt q1 q2 q3 q3n
            refine wp_of_then ?_
            go_wp2
            exact Handed.intro (J - (j + 1)) (by have := hc.out; omega) (hJ.out _ _ _ ⟨j + 1, hc.out, rfl, by rw [ha'.out, hs1.out, hh1.out, show e + ((j + 1 : Nat) : Int) = y + 1 by have := hy.out; omega]; exact ⟨rfl, rfl, rfl, rfl, rfl, rfl, rfl, rfl, rfl, trivial⟩, B1.out, r1.out⟩)
  · have hjJ : j = J := by omega
    subst hjJ
    obtain ⟨e1, e2⟩ := hend.out
    have u1 : (((n / 2 ^ j : Nat)) : Int) < (P2 : Int) := by omega
    generalize n / 2 ^ j = b at *
    generalize (st || skN n j) = s at *
    generalize hfN n j = f0 at *
    generalize hy : e + (j : Int) = y at *
    have hy := show Hid _ from hy
    clear hgo hend c hj hJ hK1 hn he1 he2 hJ0 hal e1
    obtain ⟨f, rfl, h0, h1, h2, h3, h9, h11, h12, -⟩ := ha.lit
    change Code.wp _ _ _ ⟨#[f 0, f 1, f 2, f 3, f 4, f 5, f 6, f 7, f 8, f 9, f 10, f 11, f 12, f 13, f 14, f 15, f 16, f 17, f 18, f 19, f 20, f 21, f 22, f 23, f 24, f 25, f 26, f 27, f 28, f 29, f 30, f 31, f 32, f 33, f 34, f 35, f 36, f 37, f 38, f 39, f 40, f 41, f 42, f 43, f 44, f 45, f 46, f 47, f 48, f 49, f 50, f 51, f 52, f 53, f 54, f 55, f 56, f 57, f 58, f 59, f 60, f 61, f 62, f 63, f 64, f 65, f 66, f 67, f 68, f 69, f 70, f 71, f 72, f 73, f 74, f 75, f 76, f 77, f 78, f 79, f 80, f 81, f 82, f 83, f 84, f 85, f 86, f 87, f 88, f 89, f 90, f 91, f 92, f 93, f 94, f 95, f 96, f 97, f 98, f 99, f 100, f 101, f 102, f 103, f 104, f 105, f 106, f 107, f 108, f 109, f 110, f 111, f 112, f 113, f 114, f 115, f 116, f 117, f 118, f 119, f 120, f 121, f 122, f 123, f 124, f 125, f 126, f 127, f 128, f 129, f 130, f 131, f 132, f 133, f 134, f 135, f 136, f 137, f 138, f 139, f 140, f 141, f 142, f 143, f 144, f 145, f 146, f 147, f 148, f 149, f 150, f 151, f 152, f 153, f 154, f 155, f 156], []⟩ _
    simp only at h0 h1 h2 h3 h9 h11 h12
    simp only [h0, h1, h2, h3, h9, h11, h12]
    clear h0 h1 h2 h3 h9 h11 h12
    go_wp2
    exact hK.out _ _ B.out r.out ⟨rfl, rfl, rfl, rfl, rfl, rfl, rfl, rfl, rfl, trivial⟩
end Go.Proofs.Ytjcjecbffnadaab
