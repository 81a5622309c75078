/-
  What the statement of Minimum, Maximum and Least asks: it is true. Conditions: the floats' bits fit; the list takes no more bytes than there are.
-/
import Derived.Test.YtjcjecbffnadaaaXa
import Derived.Deep.LoopGhost
import Derived.OwnWalk
import Derived.BigRegion
import Derived.BigQuiet
import Derived.Deep.QuietTactic
namespace Go.Proofs.Ytjcjecbffnadaaa
open Go.RowKit
theorem in_block {id : Nat} {Q : Exit → Act → World → Prop} {a : Act} {w : World} (h : Q .normal a w) : Exit.inBlock id Q (.exit id) a w := by
  show (if id = id then Q .normal a w else Q (.exit id) a w)
  rw [if_pos rfl]
  exact h
theorem take_float {bs : List Nat} {k : Nat} (h : k < bs.length) : ((bs.take (k + 1)).map fun b => Value.float .f64 b) = ((bs.take k).map fun b => Value.float .f64 b) ++ [.float .f64 (bs.getD k 0)] := by
  rw [List.take_succ_eq_append_getElem h, List.map_append]
  simp [List.getD, List.getElem?_eq_getElem h]
theorem nan_const : nan64 9221120237041090560 = true := by rw [nan64_is (by decide)]; decide
theorem nan_eq (b : Nat) : (FloatKind.f64.format.order b b == some .eq) = !nan64 b := by
  have h := nan_order b
  cases hn : nan64 b <;> rw [hn] at h <;> simpa using h
set_option maxHeartbeats 1000000 in
theorem in7_any {Q : Exit → Act → World → Prop} (x k base : Nat) (bs : List Nat) (a0 : Option Addr) (c0 : Nat) (vl : Value) (a : Act) (w : World) (hx : x < 18446744073709551616) (hbs : ∀ b ∈ bs, b < 18446744073709551616) (hl : bs.length ≤ 17592186044416) (hk : k < bs.length) (hbase : base ≤ w.heap.size)
    (hrd : Rd w (.slice a0 bs.length c0) (bs.map fun b : Nat => Value.int .u64 (b : Int))) (hown : w.ownsRow base 25 1 vl k ((bs.take k).map fun b => Value.float .f64 b))
    (hQ : ∀ a w' vl', Below base w w' → w'.ownsRow base 25 1 vl' (k + 1) ((bs.take (k + 1)).map fun b => Value.float .f64 b) → At 128 [(0, .int .u64 (x : Int)), (1, .slice a0 bs.length c0), (5, .float .f64 x), (6, vl'), (7, .int .u64 ((lsK x bs (k + 1)).1 : Nat)), (8, .int .i64 ((lsK x bs (k + 1)).2 : Nat)), (25, .slice a0 bs.length c0), (26, .int .i64 (bs.length : Nat)), (27, .int .i64 (k : Nat))] a → Q .normal a w' ∧ Q (.exit 1) a w') (ha : At 128 [(0, .int .u64 (x : Int)), (1, .slice a0 bs.length c0), (5, .float .f64 x), (6, vl), (7, .int .u64 ((lsK x bs k).1 : Nat)), (8, .int .i64 ((lsK x bs k).2 : Nat)), (25, .slice a0 bs.length c0), (26, .int .i64 (bs.length : Nat)), (27, .int .i64 (k : Nat))] a) : Code.wp Try.prog in7 Q a w := by
  obtain ⟨a1, c1, e1, h1⟩ := hrd
  rw [List.length_map] at e1 h1
  cases e1
  obtain ⟨g, off, rfl, hd⟩ := h1 (by omega)
  have hcell : w.cell? ⟨g, off + k, none⟩ = some (.int .u64 ((bs.getD k 0 : Nat) : Int)) := by
    rw [hd k hk]
    simp [List.getD, List.getElem?_eq_getElem hk]
  have hbk : bs.getD k 0 < 18446744073709551616 := hbs _ (by simp [List.getD, List.getElem?_eq_getElem hk])
  obtain ⟨hlt1, hlt2⟩ := lsK_lt hx hbs k
  have htk := take_float hk
  have hs1 : lsK x bs (k + 1) = if key64 (bs.getD k 0) < key64 (lsK x bs k).1 then (bs.getD k 0, k + 1) else lsK x bs k := rfl
  have hxl : ((bs.take k).map fun b => Value.float .f64 b).length = k := by rw [List.length_map, List.length_take]; omega
  rw [htk] at hQ
  generalize ((bs.take k).map fun b => Value.float .f64 b) = xs at *
  generalize bs.getD k 0 = b at *
  refine x7_a x _ b bs.length k _ g off c0 base vl xs a w (by omega) (by omega) hxl hbase hcell hown (fun a w1 vl1 B1 O1 ha => ?_) ha
  have k1 := fun w => key_any b w hbk
  have k2 := fun w => key_any (lsK x bs k).1 w hlt1
  have kx := fun w => key_any x w hx
  have go : ∀ a, At 128 [(0, .int .u64 (x : Int)), (1, .slice (some ⟨g, off, none⟩) bs.length c0), (5, .float .f64 x), (6, vl1), (7, .int .u64 ((lsK x bs (k + 1)).1 : Nat)), (8, .int .i64 ((lsK x bs (k + 1)).2 : Nat)), (9, .int .i64 (k : Nat)), (10, .int .u64 (b : Int)), (11, .float .f64 b), (25, .slice (some ⟨g, off, none⟩) bs.length c0), (26, .int .i64 (bs.length : Nat)), (27, .int .i64 (k : Nat))] a → Code.wp Try.prog (sq 4 in7) Q a w1 := fun a ha => by
    refine x7_c x _ b bs.length k _ _ vl1 a w1 _ _ (fun w => min_any x b w hx hbk) (fun w => max_any x b w hx hbk) (fun a w2 B2 ha => ?_) ha
    have O2 := owns_below O1 B2
    have hb1 : base ≤ w1.heap.size := Nat.le_trans hbase B1.size
    have B2 : Below base w w2 := B1.trans (B2.mono hb1)
    cases nx : nan64 x
    · cases nb : nan64 b
      · have hf : ¬ ((nan64 x || nan64 b) = true) := by rw [nx, nb]; decide
        have hmn : minB x b = if key64 x ≤ key64 b then x else b := by unfold minB; rw [if_neg hf]
        have hmx : maxB x b = if key64 b ≤ key64 x then x else b := by unfold maxB; rw [if_neg hf]
        by_cases c : key64 b < key64 x
        · rw [if_neg (by omega)] at hmn
          rw [if_pos (by omega)] at hmx
          rw [hmn, hmx] at ha
          exact x7_ey x _ b bs.length k _ _ vl1 a w2 _ _ (by rw [nan_order]; exact nx) (by rw [nan_order]; exact nb) kx k1 (decide_eq_true c) (fun a ha => (hQ a w2 vl1 B2 O2 ha).1) ha
        · rw [if_pos (by omega)] at hmn
          have hmx2 : maxB x b = b := by
            by_cases c2 : key64 b = key64 x
            · rw [hmx, if_pos (by omega)]
              unfold key64 at c2
              split at c2 <;> split at c2 <;> omega
            · rw [hmx, if_neg (by omega)]
          rw [hmn, hmx2] at ha
          exact x7_en x _ b bs.length k _ _ vl1 a w2 _ _ (by rw [nan_order]; exact nx) (by rw [nan_order]; exact nb) kx k1 (decide_eq_false c) (fun a ha => (hQ a w2 vl1 B2 O2 ha).1) ha
      · have hf : (nan64 x || nan64 b) = true := by rw [nx, nb]; decide
        have hmn : minB x b = 9221120237041090560 := by unfold minB; rw [if_pos hf]
        have hmx : maxB x b = 9221120237041090560 := by unfold maxB; rw [if_pos hf]
        rw [hmn, hmx] at ha
        exact x7_d2 x _ b bs.length k _ _ vl1 a w2 _ _ (by rw [nan_order]; exact nx) (by rw [nan_order]; exact nb) (by rw [nan_eq, nan_const]; rfl) (by rw [nan_eq, nan_const]; rfl) (fun a ha => (hQ a w2 vl1 B2 O2 ha).2) ha
    · have hf : (nan64 x || nan64 b) = true := by rw [nx]; simp
      have hmn : minB x b = 9221120237041090560 := by unfold minB; rw [if_pos hf]
      have hmx : maxB x b = 9221120237041090560 := by unfold maxB; rw [if_pos hf]
      rw [hmn, hmx] at ha
      exact x7_d1 x _ b bs.length k _ _ vl1 a w2 _ _ (by rw [nan_order]; exact nx) (by rw [nan_eq, nan_const]; rfl) (by rw [nan_eq, nan_const]; rfl) (fun a ha => (hQ a w2 vl1 B2 O2 ha).2) ha
  by_cases c : key64 b < key64 (lsK x bs k).1
  · rw [if_pos c] at hs1
    rw [hs1] at go
    exact x7_by x _ b bs.length k _ _ vl1 a w1 _ _ (by omega) k1 k2 (decide_eq_true c) go ha
  · rw [if_neg c] at hs1
    rw [hs1] at go
    exact x7_bn x _ b bs.length k _ _ vl1 a w1 _ _ (by omega) k1 k2 (decide_eq_false c) go ha
set_option maxRecDepth 100000 in
set_option maxHeartbeats 2000000 in
theorem x7_loop {Q : Exit → Act → World → Prop} (x : Nat) (bs : List Nat) (a0 : Option Addr) (c0 : Nat) (a : Act) (w : World) (hx : x < 18446744073709551616) (hbs : Hid (∀ b ∈ bs, b < 18446744073709551616)) (hl : (bs.length : Int) ≤ 17592186044416) (hrd : Hid (Rd w (.slice a0 bs.length c0) (bs.map fun b : Nat => Value.int .u64 (b : Int))))
    (hK : Hid (∀ a w' vl, Below w.heap.size w w' → w'.ownsRow w.heap.size 25 1 vl bs.length ((bs.take bs.length).map fun b => Value.float .f64 b) → At 128 [(0, .int .u64 (x : Int)), (1, .slice a0 bs.length c0), (5, .float .f64 x), (6, vl), (7, .int .u64 ((lsK x bs bs.length).1 : Nat)), (8, .int .i64 ((lsK x bs bs.length).2 : Nat))] a → Code.wp Try.prog (sq 6 body7) Q a w')) (ha : At 128 [(0, .int .u64 (x : Int)), (1, .slice a0 bs.length c0), (5, .float .f64 x), (6, .slice none 0 0), (7, .int .u64 (x : Int)), (8, .int .i64 0)] a) : Code.wp Try.prog (sq 5 body7) Q a w := by
  obtain ⟨f, rfl, h0, h1, h5, h6, h7, h8, -⟩ := ha.lit
  change Code.wp _ _ _ ⟨#[f 0, f 1, f 2, f 3, f 4, f 5, f 6, f 7, f 8, f 9, f 10, f 11, f 12, f 13, f 14, f 15, f 16, f 17, f 18, f 19, f 20, f 21, f 22, f 23, f 24, f 25, f 26, f 27, f 28, f 29, f 30, f 31, f 32, f 33, f 34, f 35, f 36, f 37, f 38, f 39, f 40, f 41, f 42, f 43, f 44, f 45, f 46, f 47, f 48, f 49, f 50, f 51, f 52, f 53, f 54, f 55, f 56, f 57, f 58, f 59, f 60, f 61, f 62, f 63, f 64, f 65, f 66, f 67, f 68, f 69, f 70, f 71, f 72, f 73, f 74, f 75, f 76, f 77, f 78, f 79, f 80, f 81, f 82, f 83, f 84, f 85, f 86, f 87, f 88, f 89, f 90, f 91, f 92, f 93, f 94, f 95, f 96, f 97, f 98, f 99, f 100, f 101, f 102, f 103, f 104, f 105, f 106, f 107, f 108, f 109, f 110, f 111, f 112, f 113, f 114, f 115, f 116, f 117, f 118, f 119, f 120, f 121, f 122, f 123, f 124, f 125, f 126, f 127], []⟩ _
  simp only at h0 h1 h5 h6 h7 h8
  simp only [h0, h1, h5, h6, h7, h8]
  clear h0 h1 h5 h6 h7 h8
  change Code.wp _ (Code.seq (hd (sq 5 body7)) (sq 6 body7)) _ _ _
  generalize sq 6 body7 = REST at hK ⊢
  conv => arg 2; arg 1; whnf
  go_wp2
  refine wp_loop_ghost_k (fun m a w' => ∃ (k : Nat) (vl : Value), k ≤ bs.length ∧ m = bs.length - k ∧ At 128 [(0, .int .u64 (x : Int)), (1, .slice a0 bs.length c0), (5, .float .f64 x), (6, vl), (7, .int .u64 ((lsK x bs k).1 : Nat)), (8, .int .i64 ((lsK x bs k).2 : Nat)), (25, .slice a0 bs.length c0), (26, .int .i64 (bs.length : Nat)), (27, .int .i64 (k : Nat))] a ∧ Below w.heap.size w w' ∧ w'.ownsRow w.heap.size 25 1 vl k ((bs.take k).map fun b => Value.float .f64 b)) bs.length ⟨0, .slice none 0 0, Nat.zero_le _, rfl, ⟨rfl, rfl, rfl, rfl, rfl, rfl, rfl, rfl, rfl, rfl, rfl, trivial⟩, Below.refl _ _, ⟨rfl, .inl ⟨rfl, rfl⟩⟩⟩ ?_
  rintro m a wr ⟨k, vl, hk, rfl, ha, hB, hO⟩ J0 K1 hJ hK1
  by_cases c : k < bs.length
  · have hin : Hid (∀ (Q : Exit → Act → World → Prop) (a : Act), (∀ a w' vl', Below w.heap.size wr w' → w'.ownsRow w.heap.size 25 1 vl' (k + 1) ((bs.take (k + 1)).map fun b => Value.float .f64 b) → At 128 [(0, .int .u64 (x : Int)), (1, .slice a0 bs.length c0), (5, .float .f64 x), (6, vl'), (7, .int .u64 ((lsK x bs (k + 1)).1 : Nat)), (8, .int .i64 ((lsK x bs (k + 1)).2 : Nat)), (25, .slice a0 bs.length c0), (26, .int .i64 (bs.length : Nat)), (27, .int .i64 (k : Nat))] a → Q .normal a w' ∧ Q (.exit 1) a w') → At 128 [(0, .int .u64 (x : Int)), (1, .slice a0 bs.length c0), (5, .float .f64 x), (6, vl), (7, .int .u64 ((lsK x bs k).1 : Nat)), (8, .int .i64 ((lsK x bs k).2 : Nat)), (25, .slice a0 bs.length c0), (26, .int .i64 (bs.length : Nat)), (27, .int .i64 (k : Nat))] a → Code.wp Try.prog in7 Q a wr) := fun Q a hQ ha => in7_any x k w.heap.size bs a0 c0 vl a wr hx hbs.out (by omega) c hB.size (hrd.out.below hB) hO hQ ha
    have hkl : (k : Int) < (bs.length : Int) := by omega
    have hc := show Hid _ from c
    have HB := show Hid _ from hB
    have hJ := show Hid _ from hJ
    change Code.wp _ (Code.seq (hd loop7) (Code.seq (hd (sq 1 loop7)) (Code.seq (Code.block 1 in7) (sq 3 loop7)))) _ _ _
    generalize in7 = IN at hin ⊢
    conv => arg 2; arg 1; whnf
    conv => arg 2; arg 2; arg 1; whnf
    conv => arg 2; arg 2; arg 2; arg 2; whnf
    generalize hpr : lsK x bs k = pr at ha hin
    have hl9 := show Hid _ from hl
    clear hK hrd hbs hx hl hB hk c hpr
    obtain ⟨f, rfl, h0, h1, h5, h6, h7, h8, h25, h26, h27, -⟩ := ha.lit
    change Code.wp _ _ _ ⟨#[f 0, f 1, f 2, f 3, f 4, f 5, f 6, f 7, f 8, f 9, f 10, f 11, f 12, f 13, f 14, f 15, f 16, f 17, f 18, f 19, f 20, f 21, f 22, f 23, f 24, f 25, f 26, f 27, f 28, f 29, f 30, f 31, f 32, f 33, f 34, f 35, f 36, f 37, f 38, f 39, f 40, f 41, f 42, f 43, f 44, f 45, f 46, f 47, f 48, f 49, f 50, f 51, f 52, f 53, f 54, f 55, f 56, f 57, f 58, f 59, f 60, f 61, f 62, f 63, f 64, f 65, f 66, f 67, f 68, f 69, f 70, f 71, f 72, f 73, f 74, f 75, f 76, f 77, f 78, f 79, f 80, f 81, f 82, f 83, f 84, f 85, f 86, f 87, f 88, f 89, f 90, f 91, f 92, f 93, f 94, f 95, f 96, f 97, f 98, f 99, f 100, f 101, f 102, f 103, f 104, f 105, f 106, f 107, f 108, f 109, f 110, f 111, f 112, f 113, f 114, f 115, f 116, f 117, f 118, f 119, f 120, f 121, f 122, f 123, f 124, f 125, f 126, f 127], []⟩ _
    simp only at h0 h1 h5 h6 h7 h8 h25 h26 h27
    simp only [h0, h1, h5, h6, h7, h8, h25, h26, h27]
    clear h0 h1 h5 h6 h7 h8 h25 h26 h27
    go_wp2
    refine hin.out _ _ (fun a w2 vl2 B2 O2 ha => ?_) ⟨rfl, rfl, rfl, rfl, rfl, rfl, rfl, rfl, rfl, rfl, rfl, trivial⟩
    rename_i K2 hK2
    have fin : K2 a w2 := by
      refine hK2 _ _ ?_
      have B3 : Hid (Below w.heap.size w w2) := HB.out.trans B2
      have O3 := show Hid _ from O2
      generalize hpr2 : lsK x bs (k + 1) = pr2 at ha
      have hpr2 := show Hid _ from hpr2
      have hkb : (k : Int) ≤ 17592186044416 := by have := hc.out; have := hl9.out; omega
      clear hK2 B2 O2 hin
      obtain ⟨f, rfl, h0, h1, h5, h6, h7, h8, h25, h26, h27, -⟩ := ha.lit
      change Code.wp _ _ _ ⟨#[f 0, f 1, f 2, f 3, f 4, f 5, f 6, f 7, f 8, f 9, f 10, f 11, f 12, f 13, f 14, f 15, f 16, f 17, f 18, f 19, f 20, f 21, f 22, f 23, f 24, f 25, f 26, f 27, f 28, f 29, f 30, f 31, f 32, f 33, f 34, f 35, f 36, f 37, f 38, f 39, f 40, f 41, f 42, f 43, f 44, f 45, f 46, f 47, f 48, f 49, f 50, f 51, f 52, f 53, f 54, f 55, f 56, f 57, f 58, f 59, f 60, f 61, f 62, f 63, f 64, f 65, f 66, f 67, f 68, f 69, f 70, f 71, f 72, f 73, f 74, f 75, f 76, f 77, f 78, f 79, f 80, f 81, f 82, f 83, f 84, f 85, f 86, f 87, f 88, f 89, f 90, f 91, f 92, f 93, f 94, f 95, f 96, f 97, f 98, f 99, f 100, f 101, f 102, f 103, f 104, f 105, f 106, f 107, f 108, f 109, f 110, f 111, f 112, f 113, f 114, f 115, f 116, f 117, f 118, f 119, f 120, f 121, f 122, f 123, f 124, f 125, f 126, f 127], []⟩ _
      simp only at h0 h1 h5 h6 h7 h8 h25 h26 h27
      simp only [h0, h1, h5, h6, h7, h8, h25, h26, h27]
      clear h0 h1 h5 h6 h7 h8 h25 h26 h27
      go_wp2
      refine Handed.intro (bs.length - (k + 1)) (by have := hc.out; omega) (hJ.out _ _ _ ⟨k + 1, vl2, hc.out, rfl, ?_, B3.out, O3.out⟩)
      rw [hpr2.out, show ((k + 1 : Nat) : Int) = (k : Int) + 1 by omega]
      exact ⟨rfl, rfl, rfl, rfl, rfl, rfl, rfl, rfl, rfl, rfl, rfl, trivial⟩
    exact ⟨fin, in_block fin⟩
  · have hkb : k = bs.length := by omega
    subst hkb
    have HB := show Hid _ from hB
    have HO := show Hid _ from hO
    generalize hpr : lsK x bs bs.length = pr at ha
    have hpr := show Hid _ from hpr
    clear hJ hK1 c hk hB hO hrd hbs hx
    obtain ⟨f, rfl, h0, h1, h5, h6, h7, h8, h25, h26, h27, -⟩ := ha.lit
    change Code.wp _ _ _ ⟨#[f 0, f 1, f 2, f 3, f 4, f 5, f 6, f 7, f 8, f 9, f 10, f 11, f 12, f 13, f 14, f 15, f 16, f 17, f 18, f 19, f 20, f 21, f 22, f 23, f 24, f 25, f 26, f 27, f 28, f 29, f 30, f 31, f 32, f 33, f 34, f 35, f 36, f 37, f 38, f 39, f 40, f 41, f 42, f 43, f 44, f 45, f 46, f 47, f 48, f 49, f 50, f 51, f 52, f 53, f 54, f 55, f 56, f 57, f 58, f 59, f 60, f 61, f 62, f 63, f 64, f 65, f 66, f 67, f 68, f 69, f 70, f 71, f 72, f 73, f 74, f 75, f 76, f 77, f 78, f 79, f 80, f 81, f 82, f 83, f 84, f 85, f 86, f 87, f 88, f 89, f 90, f 91, f 92, f 93, f 94, f 95, f 96, f 97, f 98, f 99, f 100, f 101, f 102, f 103, f 104, f 105, f 106, f 107, f 108, f 109, f 110, f 111, f 112, f 113, f 114, f 115, f 116, f 117, f 118, f 119, f 120, f 121, f 122, f 123, f 124, f 125, f 126, f 127], []⟩ _
    simp only at h0 h1 h5 h6 h7 h8 h25 h26 h27
    simp only [h0, h1, h5, h6, h7, h8, h25, h26, h27]
    clear h0 h1 h5 h6 h7 h8 h25 h26 h27
    go_wp2
    refine hK.out _ _ vl HB.out HO.out ?_
    rw [hpr.out]
    exact ⟨rfl, rfl, rfl, rfl, rfl, rfl, rfl, rfl, trivial⟩
set_option maxRecDepth 100000 in
set_option maxHeartbeats 2000000 in
theorem x7_start {Q : Ending → World → Prop} (x : Nat) (bs : List Nat) (a0 : Option Addr) (c0 : Nat) (w : World)
    (hK : Hid (∀ a w', Below w.heap.size w w' → At 128 [(0, .int .u64 (x : Int)), (1, .slice a0 bs.length c0), (5, .float .f64 x), (6, .slice none 0 0), (7, .int .u64 (x : Int)), (8, .int .i64 0)] a → Code.wp Try.prog (sq 5 body7) (bodyPost Try.prog Try.f7 Q) a w')) : Calls Try.prog 7 #[.int .u64 (x : Int), .slice a0 bs.length c0] w Q := by
  have k9 := awake_any
  have x10 := ext10
  go_enter Try.func7, Try.ntmps7
  change Code.wp _ (Code.seq (hd (sq 0 body7)) (Code.seq (hd (sq 1 body7)) (Code.seq (hd (sq 2 body7)) (Code.seq (hd (sq 3 body7)) (Code.seq (hd (sq 4 body7)) (sq 5 body7)))))) _ _ _
  generalize sq 5 body7 = REST at hK ⊢
  conv => arg 2; arg 1; whnf
  conv => arg 2; arg 2; arg 1; whnf
  conv => arg 2; arg 2; arg 2; arg 1; whnf
  conv => arg 2; arg 2; arg 2; arg 2; arg 1; whnf
  conv => arg 2; arg 2; arg 2; arg 2; arg 2; arg 1; whnf
  go_wp2_with (go_at_call 9; refine (k9 _).mono ?_)
  intro e1 w1 hq
  first | (obtain ⟨rfl, b1⟩ : _ ∧ _ := hq) | (subst hq; intro b1)
  have B1 : Hid (Below w.heap.size w w1) := b1
  clear b1
  go_wp2
  exact hK.out _ _ B1.out ⟨rfl, rfl, rfl, rfl, rfl, rfl, rfl, rfl, trivial⟩
set_option maxRecDepth 100000 in
set_option maxHeartbeats 2000000 in
theorem x7_least {Q : Exit → Act → World → Prop} (x p q : Nat) (vm vl : Value) (a : Act) (w : World) (k35 : Calls Try.prog 35 #[.float .f64 x, vl] w fun e w' => e = .returned (.tuple #[.float .f64 p, .int .i64 (q : Nat)]) ∧ Below w.heap.size w w')
    (hK : Hid (∀ a w', Below w.heap.size w w' → At 128 [(1, vm), (6, vl), (7, .int .u64 (p : Int)), (8, .int .i64 (q : Nat)), (16, .float .f64 p), (17, .int .i64 (q : Nat))] a → Code.wp Try.prog (sq 7 body7) Q a w')) (ha : At 128 [(0, .int .u64 (x : Int)), (1, vm), (5, .float .f64 x), (6, vl), (7, .int .u64 (p : Int)), (8, .int .i64 (q : Nat))] a) : Code.wp Try.prog (sq 6 body7) Q a w := by
  obtain ⟨f, rfl, h0, h1, h5, h6, h7, h8, -⟩ := ha.lit
  change Code.wp _ _ _ ⟨#[f 0, f 1, f 2, f 3, f 4, f 5, f 6, f 7, f 8, f 9, f 10, f 11, f 12, f 13, f 14, f 15, f 16, f 17, f 18, f 19, f 20, f 21, f 22, f 23, f 24, f 25, f 26, f 27, f 28, f 29, f 30, f 31, f 32, f 33, f 34, f 35, f 36, f 37, f 38, f 39, f 40, f 41, f 42, f 43, f 44, f 45, f 46, f 47, f 48, f 49, f 50, f 51, f 52, f 53, f 54, f 55, f 56, f 57, f 58, f 59, f 60, f 61, f 62, f 63, f 64, f 65, f 66, f 67, f 68, f 69, f 70, f 71, f 72, f 73, f 74, f 75, f 76, f 77, f 78, f 79, f 80, f 81, f 82, f 83, f 84, f 85, f 86, f 87, f 88, f 89, f 90, f 91, f 92, f 93, f 94, f 95, f 96, f 97, f 98, f 99, f 100, f 101, f 102, f 103, f 104, f 105, f 106, f 107, f 108, f 109, f 110, f 111, f 112, f 113, f 114, f 115, f 116, f 117, f 118, f 119, f 120, f 121, f 122, f 123, f 124, f 125, f 126, f 127], []⟩ _
  simp only at h0 h1 h5 h6 h7 h8
  simp only [h0, h1, h5, h6, h7, h8]
  clear h0 h1 h5 h6 h7 h8
  change Code.wp _ (Code.seq (hd (sq 6 body7)) (sq 7 body7)) _ _ _
  generalize sq 7 body7 = REST at hK ⊢
  conv => arg 2; arg 1; whnf
  go_wp2_with (go_at_call 35; refine k35.mono ?_)
  intro e1 w1 hq
  first | (obtain ⟨rfl, b1⟩ : _ ∧ _ := hq) | (subst hq; intro b1)
  have B1 : Hid (Below w.heap.size w w1) := b1
  clear b1 k35
  go_wp2
  exact hK.out _ _ B1.out ⟨rfl, rfl, rfl, rfl, rfl, rfl, rfl, rfl, trivial⟩
set_option maxRecDepth 100000 in
set_option maxHeartbeats 2000000 in
theorem x7_loop2 {Q : Exit → Act → World → Prop} (p q n c0 c1 : Nat) (a0 a1 : Option Addr) (bs : List Nat) (a : Act) (w : World) (_hn : bs.length = n) (hl : (n : Int) ≤ 17592186044416) (h0 : Hid (0 < n → ∃ g off, a0 = some ⟨g, off, none⟩ ∧ ∀ j, j < n → w.cell? ⟨g, off + j, none⟩ = some (.int .u64 ((bs.getD j 0 : Nat) : Int)))) (h1 : Hid (0 < n → ∃ g off, a1 = some ⟨g, off, none⟩ ∧ ∀ j, j < n → w.cell? ⟨g, off + j, none⟩ = some (.float .f64 (bs.getD j 0))))
    (hK : Hid (∀ a w', Below w.heap.size w w' → At 128 [(7, .int .u64 (p : Int)), (8, .int .i64 (q : Nat)), (16, .float .f64 p), (17, .int .i64 (q : Nat))] a → Code.wp Try.prog (sq 8 body7) Q a w')) (ha : At 128 [(1, .slice a0 n c0), (6, .slice a1 n c1), (7, .int .u64 (p : Int)), (8, .int .i64 (q : Nat)), (16, .float .f64 p), (17, .int .i64 (q : Nat))] a) : Code.wp Try.prog (sq 7 body7) Q a w := by
  clear _hn
  obtain ⟨f, rfl, h1, h6, h7, h8, h16, h17, -⟩ := ha.lit
  change Code.wp _ _ _ ⟨#[f 0, f 1, f 2, f 3, f 4, f 5, f 6, f 7, f 8, f 9, f 10, f 11, f 12, f 13, f 14, f 15, f 16, f 17, f 18, f 19, f 20, f 21, f 22, f 23, f 24, f 25, f 26, f 27, f 28, f 29, f 30, f 31, f 32, f 33, f 34, f 35, f 36, f 37, f 38, f 39, f 40, f 41, f 42, f 43, f 44, f 45, f 46, f 47, f 48, f 49, f 50, f 51, f 52, f 53, f 54, f 55, f 56, f 57, f 58, f 59, f 60, f 61, f 62, f 63, f 64, f 65, f 66, f 67, f 68, f 69, f 70, f 71, f 72, f 73, f 74, f 75, f 76, f 77, f 78, f 79, f 80, f 81, f 82, f 83, f 84, f 85, f 86, f 87, f 88, f 89, f 90, f 91, f 92, f 93, f 94, f 95, f 96, f 97, f 98, f 99, f 100, f 101, f 102, f 103, f 104, f 105, f 106, f 107, f 108, f 109, f 110, f 111, f 112, f 113, f 114, f 115, f 116, f 117, f 118, f 119, f 120, f 121, f 122, f 123, f 124, f 125, f 126, f 127], []⟩ _
  simp only at h1 h6 h7 h8 h16 h17
  simp only [h1, h6, h7, h8, h16, h17]
  clear h1 h6 h7 h8 h16 h17
  change Code.wp _ (Code.seq (hd (sq 7 body7)) (sq 8 body7)) _ _ _
  generalize sq 8 body7 = REST at hK ⊢
  conv => arg 2; arg 1; whnf
  go_wp2
  refine wp_loop_ghost_k (fun m a w' => ∃ k : Nat, k ≤ n ∧ m = n - k ∧ At 128 [(1, .slice a0 n c0), (6, .slice a1 n c1), (7, .int .u64 (p : Int)), (8, .int .i64 (q : Nat)), (16, .float .f64 p), (17, .int .i64 (q : Nat)), (94, .slice a0 n c0), (95, .int .i64 (n : Nat)), (96, .int .i64 (k : Nat))] a ∧ Below w.heap.size w w') n ⟨0, Nat.zero_le _, rfl, ⟨rfl, rfl, rfl, rfl, rfl, rfl, rfl, rfl, rfl, rfl, rfl, trivial⟩, Below.refl _ _⟩ ?_
  rintro m a wr ⟨k, hk, rfl, ha, hB⟩ J0 K1 hJ hK1
  by_cases c : k < n
  · have hkl : (k : Int) < (n : Int) := by omega
    obtain ⟨g0, o0, rfl, d0⟩ := h0.out (by omega)
    obtain ⟨g1, o1, rfl, d1⟩ := h1.out (by omega)
    have e0 := d0 k c
    have e1 := d1 k c
    have f0 : wr.cell? ⟨g0, o0 + k, none⟩ = some (.int .u64 ((bs.getD k 0 : Nat) : Int)) := (hB.cell (p := ⟨g0, o0 + k, none⟩) (by simpa using World.block_lt_of_cell? w _ e0)).trans e0
    have f1 : wr.cell? ⟨g1, o1 + k, none⟩ = some (.float .f64 (bs.getD k 0)) := (hB.cell (p := ⟨g1, o1 + k, none⟩) (by simpa using World.block_lt_of_cell? w _ e1)).trans e1
    generalize bs.getD k 0 = b at *
    have hc := show Hid _ from c
    have HB := show Hid _ from hB
    have hJ := show Hid _ from hJ
    have hkb : (k : Int) ≤ 17592186044416 := by omega
    have x20 := ext20
    clear hK h0 h1 d0 d1 e0 e1 hB hk c
    obtain ⟨f, rfl, h1, h6, h7, h8, h16, h17, h94, h95, h96, -⟩ := ha.lit
    change Code.wp _ _ _ ⟨#[f 0, f 1, f 2, f 3, f 4, f 5, f 6, f 7, f 8, f 9, f 10, f 11, f 12, f 13, f 14, f 15, f 16, f 17, f 18, f 19, f 20, f 21, f 22, f 23, f 24, f 25, f 26, f 27, f 28, f 29, f 30, f 31, f 32, f 33, f 34, f 35, f 36, f 37, f 38, f 39, f 40, f 41, f 42, f 43, f 44, f 45, f 46, f 47, f 48, f 49, f 50, f 51, f 52, f 53, f 54, f 55, f 56, f 57, f 58, f 59, f 60, f 61, f 62, f 63, f 64, f 65, f 66, f 67, f 68, f 69, f 70, f 71, f 72, f 73, f 74, f 75, f 76, f 77, f 78, f 79, f 80, f 81, f 82, f 83, f 84, f 85, f 86, f 87, f 88, f 89, f 90, f 91, f 92, f 93, f 94, f 95, f 96, f 97, f 98, f 99, f 100, f 101, f 102, f 103, f 104, f 105, f 106, f 107, f 108, f 109, f 110, f 111, f 112, f 113, f 114, f 115, f 116, f 117, f 118, f 119, f 120, f 121, f 122, f 123, f 124, f 125, f 126, f 127], []⟩ _
    simp only at h1 h6 h7 h8 h16 h17 h94 h95 h96
    simp only [h1, h6, h7, h8, h16, h17, h94, h95, h96]
    clear h1 h6 h7 h8 h16 h17 h94 h95 h96
    go_wp2
    go_quiet (fail)
    refine (by assumption : ∀ (a : Act) (w : World), Code.wp Try.prog _ _ a w → _) _ _ ?_
    go_wp2
    exact Handed.intro (n - (k + 1)) (by have := hc.out; omega) (hJ.out _ _ _ ⟨k + 1, hc.out, rfl, by rw [show ((k + 1 : Nat) : Int) = (k : Int) + 1 by omega]; exact ⟨rfl, rfl, rfl, rfl, rfl, rfl, rfl, rfl, rfl, rfl, rfl, trivial⟩, by first | exact HB.out | exact HB.out.drew | exact below_drewN HB.out _⟩)
  · have hkb : k = n := by omega
    subst hkb
    have HB := show Hid _ from hB
    clear hJ hK1 c hk hB h0 h1
    obtain ⟨f, rfl, h1, h6, h7, h8, h16, h17, h94, h95, h96, -⟩ := ha.lit
    change Code.wp _ _ _ ⟨#[f 0, f 1, f 2, f 3, f 4, f 5, f 6, f 7, f 8, f 9, f 10, f 11, f 12, f 13, f 14, f 15, f 16, f 17, f 18, f 19, f 20, f 21, f 22, f 23, f 24, f 25, f 26, f 27, f 28, f 29, f 30, f 31, f 32, f 33, f 34, f 35, f 36, f 37, f 38, f 39, f 40, f 41, f 42, f 43, f 44, f 45, f 46, f 47, f 48, f 49, f 50, f 51, f 52, f 53, f 54, f 55, f 56, f 57, f 58, f 59, f 60, f 61, f 62, f 63, f 64, f 65, f 66, f 67, f 68, f 69, f 70, f 71, f 72, f 73, f 74, f 75, f 76, f 77, f 78, f 79, f 80, f 81, f 82, f 83, f 84, f 85, f 86, f 87, f 88, f 89, f 90, f 91, f 92, f 93, f 94, f 95, f 96, f 97, f 98, f 99, f 100, f 101, f 102, f 103, f 104, f 105, f 106, f 107, f 108, f 109, f 110, f 111, f 112, f 113, f 114, f 115, f 116, f 117, f 118, f 119, f 120, f 121, f 122, f 123, f 124, f 125, f 126, f 127], []⟩ _
    simp only at h1 h6 h7 h8 h16 h17 h94 h95 h96
    simp only [h1, h6, h7, h8, h16, h17, h94, h95, h96]
    clear h1 h6 h7 h8 h16 h17 h94 h95 h96
    go_wp2
    exact hK.out _ _ HB.out ⟨rfl, rfl, rfl, rfl, rfl, rfl, trivial⟩
set_option maxRecDepth 100000 in
set_option maxHeartbeats 2000000 in
theorem x7_end (p q : Nat) (a : Act) (w0 w : World) (B : Hid (Below w0.heap.size w0 w)) (k24 : ∀ w, Calls Try.prog 24 #[.float .f64 p, .int .u64 (p : Int)] w fun e w' => e = .returned (.bool true) ∧ Below w.heap.size w w') (ha : At 128 [(7, .int .u64 (p : Int)), (8, .int .i64 (q : Nat)), (16, .float .f64 p), (17, .int .i64 (q : Nat))] a) : Code.wp Try.prog (sq 8 body7) (bodyPost Try.prog Try.f7 fun e w' => e = .returned (.bool true) ∧ Below w0.heap.size w0 w') a w := by
  obtain ⟨f, rfl, h7, h8, h16, h17, -⟩ := ha.lit
  change Code.wp _ _ _ ⟨#[f 0, f 1, f 2, f 3, f 4, f 5, f 6, f 7, f 8, f 9, f 10, f 11, f 12, f 13, f 14, f 15, f 16, f 17, f 18, f 19, f 20, f 21, f 22, f 23, f 24, f 25, f 26, f 27, f 28, f 29, f 30, f 31, f 32, f 33, f 34, f 35, f 36, f 37, f 38, f 39, f 40, f 41, f 42, f 43, f 44, f 45, f 46, f 47, f 48, f 49, f 50, f 51, f 52, f 53, f 54, f 55, f 56, f 57, f 58, f 59, f 60, f 61, f 62, f 63, f 64, f 65, f 66, f 67, f 68, f 69, f 70, f 71, f 72, f 73, f 74, f 75, f 76, f 77, f 78, f 79, f 80, f 81, f 82, f 83, f 84, f 85, f 86, f 87, f 88, f 89, f 90, f 91, f 92, f 93, f 94, f 95, f 96, f 97, f 98, f 99, f 100, f 101, f 102, f 103, f 104, f 105, f 106, f 107, f 108, f 109, f 110, f 111, f 112, f 113, f 114, f 115, f 116, f 117, f 118, f 119, f 120, f 121, f 122, f 123, f 124, f 125, f 126, f 127], []⟩ _
  simp only at h7 h8 h16 h17
  simp only [h7, h8, h16, h17]
  clear h7 h8 h16 h17
  conv => arg 2; whnf
  go_wp2_with (go_at_call 24; refine (k24 _).mono ?_)
  intro e1 w1 hq
  first | (obtain ⟨rfl, b1⟩ : _ ∧ _ := hq) | (subst hq; intro b1)
  have B1 : Hid (Below w0.heap.size w0 w1) := B.out.trans (b1.mono B.out.size)
  clear b1
  go_wp2
  go_ret
  exact ⟨by simp, B1.out⟩
end Go.Proofs.Ytjcjecbffnadaaa
