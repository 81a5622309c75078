/-
  The contract of the document's rounded, by the number that the digits say. Conditions: the digits are of 16 bits.
-/
import Derived.Test.YtdhfkdopcphjlabBl
namespace Go.Proofs.Ytdhfkdopcphjlab
open Go.RowKit
theorem bigN_split (D : Nat → Nat) (i : Nat) : ∀ m, bigN D (i + m) = bigN D i + 65536 ^ i * bigN (fun j => D (i + j)) m
  | 0 => by simp [bigN]
  | m + 1 => by
    show bigN D (i + m) + D (i + m) * 65536 ^ (i + m) = bigN D i + 65536 ^ i * (bigN (fun j => D (i + j)) m + D (i + m) * 65536 ^ m)
    rw [bigN_split D i m, Nat.mul_add, Nat.pow_add, Nat.add_assoc]
    congr 2
    rw [← Nat.mul_assoc, ← Nat.mul_assoc, Nat.mul_comm (65536 ^ i)]
theorem pow16 (q r : Nat) : 2 ^ (16 * q + r) = 65536 ^ q * 2 ^ r := by rw [Nat.pow_add, Nat.pow_mul]
theorem pow_flat (q n : Nat) (h : n = 16 * q) : 65536 ^ q = 2 ^ n := by subst h; rw [Nat.pow_mul]
/-- A bit of the number is a bit of its digit. -/
theorem bit_is {D : Nat → Nat} {n k : Nat} (hD : ∀ j, j < n → D j < 65536) (hk : k < 16 * n) : bigN D n / 2 ^ k % 2 = D (k / 16) / 2 ^ (k % 16) % 2 := by
  have hq : k / 16 < n := by omega
  obtain ⟨m, hm⟩ : ∃ m, n = k / 16 + 1 + m := ⟨n - (k / 16 + 1), by omega⟩
  have hl := bigN_lt (D := D) (k / 16) fun j hj => hD j (by omega)
  have e1 : bigN D n = bigN D (k / 16) + 65536 ^ (k / 16) * (D (k / 16) + 65536 * bigN (fun j => D (k / 16 + 1 + j)) m) := by
    conv => lhs; rw [hm, bigN_split]
    show bigN D (k / 16) + D (k / 16) * _ + _ = _
    rw [Nat.pow_succ, Nat.mul_add, Nat.add_assoc, Nat.mul_comm (D (k / 16)), Nat.mul_assoc]
  have e2 : (2 : Nat) ^ k = 65536 ^ (k / 16) * 2 ^ (k % 16) := by rw [← pow16]; congr 1; omega
  have hp : 0 < 65536 ^ (k / 16) := Nat.pos_of_ne_zero (by simp)
  rw [e2, ← Nat.div_div_eq_div_mul, e1, Nat.add_mul_div_left _ _ hp, Nat.div_eq_of_lt hl, Nat.zero_add]
  have h4 : (2 : Nat) ^ 16 = 2 ^ (k % 16) * (2 ^ (15 - k % 16) * 2) := by rw [← Nat.pow_succ, ← Nat.pow_add]; congr 1; omega
  rw [show (65536 : Nat) = 2 ^ (k % 16) * (2 ^ (15 - k % 16) * 2) from h4, Nat.mul_assoc, Nat.add_mul_div_left _ _ (Nat.two_pow_pos _)]
  generalize bigN _ m = X
  rw [show 2 ^ (15 - k % 16) * 2 * X = 2 * (2 ^ (15 - k % 16) * X) by rw [Nat.mul_comm _ 2, Nat.mul_assoc]]
  omega
theorem bit_more (N j : Nat) : 2 * (N / 2 ^ (j + 1)) + N / 2 ^ j % 2 = N / 2 ^ j := by
  rw [Nat.pow_succ, ← Nat.div_div_eq_div_mul]
  omega
theorem bit_off {N k : Nat} (h : N < 2 ^ (k + 1)) (hb : N / 2 ^ k % 2 = 0) : N < 2 ^ k := by
  have h1 := bit_more N k
  rw [Nat.div_eq_of_lt h, hb] at h1
  exact (Nat.div_eq_zero_iff_lt (Nat.two_pow_pos k)).1 h1.symm
theorem bit_on {N k : Nat} (hb : N / 2 ^ k % 2 = 1) : 2 ^ k ≤ N := by
  refine Nat.le_of_not_lt fun h => ?_
  rw [Nat.div_eq_of_lt h] at hb
  omega
theorem top_small {N k i : Nat} (h : N < 2 ^ k) (hi : k ≤ i + 53) : N / 2 ^ i < 9007199254740992 := by
  refine Nat.div_lt_of_lt_mul ?_
  rw [show (9007199254740992 : Nat) = 2 ^ 53 from rfl, ← Nat.pow_add]
  exact Nat.lt_of_lt_of_le h (Nat.pow_le_pow_right (by decide) hi)
theorem rest_more {N i : Nat} (h : true = decide (N % 2 ^ i ≠ 0)) : decide (N % 2 ^ (i + 1) ≠ 0) = true := by
  have h1 : N % 2 ^ i ≠ 0 := of_decide_eq_true h.symm
  refine decide_eq_true ?_
  rw [low_split]
  omega
theorem rest_bit {N i : Nat} (h : false = decide (N % 2 ^ i ≠ 0)) : (N / 2 ^ i % 2 == 1) = decide (N % 2 ^ (i + 1) ≠ 0) := by
  have h1 : N % 2 ^ i = 0 := by simpa using h.symm
  rw [low_split, h1, Nat.add_zero]
  have hp := Nat.two_pow_pos i
  rcases (show N / 2 ^ i % 2 = 0 ∨ N / 2 ^ i % 2 = 1 by omega) with hb | hb
  · rw [hb]; simp
  · rw [hb]; simp
/-- The lowest bit that is kept. -/
def lowR (N : Nat) : Nat := max (lenN N - 53) 1126
/-- The document's rounding. -/
def rdB (N : Nat) : Nat := if N = 0 then 0 else scB (rnd N (lowR N)) ((lowR N : Int) - 2200)
attribute [local go_sem] rowB_size
theorem ld62 {w : World} {b : Nat} {f : Nat → Int} (h : Bk w b f) : (loadVar 75 ⟨b, 0, none⟩).run Try.prog w = .ok (.agg (rowB f)) w := by
  obtain ⟨t, h⟩ := h
  refine run_ldc (fun j v hj => ?_) Try.underlying75 rfl (by rw [rowB_size]; kernel_rfl)
  rw [cell_of_row w b j _ t (0, 0) h]
  exact hj
theorem oper_ld {P : Program} {o : Oper} {a : Act} {w : World} {K : Act → World → Prop} {Q : Exit → Act → World → Prop} (ty : TypeId) (x : Operand) (ho : o.op = .load ty x) (g : Nat) (hx : a.eval x = .pointer (some ⟨g, 0, none⟩)) (cs : Array Value)
    (hl : (loadVar ty ⟨g, 0, none⟩).run P w = .ok (.agg cs) w) (h : K (a.put o.dst (.agg cs)) w) : Oper.wp P o a w K Q := by
  unfold Oper.wp execOp
  simp only [ho, hx, Instr.loadAt, Instr.sureAddr, Sem.run_bind, Sem.run_pure, Result.andThen_ok, hl]
  exact h
noncomputable def body65 : Code := Try.f97.body.getD .skip
set_option maxRecDepth 100000 in
set_option maxHeartbeats 2000000 in
theorem bd_1 {Q : Ending → World → Prop} (N : Nat) (fD : Nat → Int) (w : World) (hN : Hid (N < 2 ^ 4480)) (k74 : Hid (∀ k : Nat, k < 4480 → ∀ w', Calls Try.prog 117 #[.agg (rowB fD), .int .i64 (k : Int)] w' fun e w'' => e = .returned (.int .i64 ((N / 2 ^ k % 2 : Nat) : Int)) ∧ Below w'.heap.size w' w''))
    (hK : Hid (∀ a w1 (k : Nat), k ≤ 4480 → N < 2 ^ k → (k = 0 ∨ 2 ^ (k - 1) ≤ N) → Bk w1 w.heap.size fD → Below w.heap.size w w1 → At 70 [(1, .pointer (some ⟨w.heap.size, 0, none⟩)), (3, .int .i64 ((k : Int) - 1))] a → Code.wp Try.prog (sq 3 body65) (bodyPost Try.prog Try.f97 Q) a w1)) : Calls Try.prog 97 #[.agg (rowB fD)] w Q := by
  have BK : Hid (Bk (w.alloc (.cells (rowB fD) 75)) w.heap.size fD) := Bk.new _ _
  have BB : Hid (Below w.heap.size w (w.alloc (.cells (rowB fD) 75))) := (Below.refl _ _).alloc (Nat.le_refl _) _
  go_enter Try.func97, Try.ntmps97
  change Code.wp _ (Code.seq (hd (sq 0 body65)) (Code.seq (hd (sq 1 body65)) (Code.seq (hd (sq 2 body65)) (sq 3 body65)))) _ _ _
  generalize sq 3 body65 = REST at hK ⊢
  conv => arg 2; arg 1; whnf
  conv => arg 2; arg 2; arg 1; whnf
  conv => arg 2; arg 2; arg 2; arg 1; whnf
  go_wp2_with fail
  go_loopw [3] (fun x wr => ∃ k : Nat, k ≤ 4480 ∧ x = .int .i64 ((k : Int) - 1) ∧ Hid (N < 2 ^ k) ∧ Hid (Bk wr w.heap.size fD) ∧ Hid (Below w.heap.size w wr)) (fun x _ => (intOf x + 1).toNat)
  case atStart => exact ⟨4480, by omega, rfl, hN.out, BK.out, BB.out⟩
  case round =>
    clear hN BK BB
    obtain ⟨k, hk, rfl, hN, bk, bb⟩ := hrel
    have hld := ld62 bk.out
    cases k with
    | zero =>
      rw [show ((0 : Nat) : Int) - 1 = -1 from rfl]
      go_wp2
      exact hK.out _ _ 0 (by omega) hN.out (.inl rfl) bk.out bb.out ⟨rfl, rfl, rfl, rfl, trivial⟩
    | succ k =>
      rw [show ((k + 1 : Nat) : Int) - 1 = (k : Int) by omega]
      have hk1 : (0 : Int) ≤ k := by omega
      have hk2 : decide ((0 : Int) ≤ k) = true := by simp
      go_wp2_with fail
      refine oper_ld 75 _ rfl w.heap.size rfl _ hld ?_
      go_wp2_with fail
      refine (k74.out k (by omega) _).mono ?_
      rintro e w1 ⟨rfl, b1⟩
      have bk1 : Hid (Bk w1 w.heap.size fD) := bk.out.below b1
      have bb1 : Hid (Below w.heap.size w w1) := bb.out.trans (b1.mono bb.out.size)
      clear b1 hld bb bk
      rcases (show N / 2 ^ k % 2 = 0 ∨ N / 2 ^ k % 2 = 1 by omega) with hb | hb
      · have HB : Hid (N < 2 ^ k) := bit_off hN.out hb
        rw [hb]
        clear hb
        go_wp2
        exact ⟨⟨k, by omega, rfl, HB.out, bk1.out, bb1.out⟩, by simp [intOf]⟩
      · have HB : Hid (2 ^ k ≤ N) := bit_on hb
        rw [hb]
        clear hb
        go_wp2
        refine hK.out _ _ (k + 1) hk hN.out (.inr HB.out) bk1.out bb1.out ?_
        rw [show ((k + 1 : Nat) : Int) - 1 = (k : Int) by omega]
        exact ⟨rfl, rfl, rfl, rfl, trivial⟩
set_option maxRecDepth 100000 in
set_option maxHeartbeats 2000000 in
theorem bd_0 {Q : Ending → World → Prop} (b : Nat) (a : Act) (w1 : World) (hQ : Hid (Q (.returned (.float .f64 0)) w1)) (ha : At 70 [(1, .pointer (some ⟨b, 0, none⟩)), (3, .int .i64 (-1))] a) : Code.wp Try.prog (sq 3 body65) (bodyPost Try.prog Try.f97 Q) a w1 := by
  obtain ⟨f, rfl, h1, h3, -⟩ := ha.lit
  change Code.wp _ _ _ ⟨#[f 0, f 1, f 2, f 3, f 4, f 5, f 6, f 7, f 8, f 9, f 10, f 11, f 12, f 13, f 14, f 15, f 16, f 17, f 18, f 19, f 20, f 21, f 22, f 23, f 24, f 25, f 26, f 27, f 28, f 29, f 30, f 31, f 32, f 33, f 34, f 35, f 36, f 37, f 38, f 39, f 40, f 41, f 42, f 43, f 44, f 45, f 46, f 47, f 48, f 49, f 50, f 51, f 52, f 53, f 54, f 55, f 56, f 57, f 58, f 59, f 60, f 61, f 62, f 63, f 64, f 65, f 66, f 67, f 68, f 69], []⟩ _
  simp only at h1 h3
  simp only [h1, h3]
  clear h1 h3
  conv => arg 2; whnf
  go_wp2
  exact hQ.out
set_option maxRecDepth 100000 in
set_option maxHeartbeats 2000000 in
theorem bd_2 {Q : Exit → Act → World → Prop} (k L b : Nat) (a : Act) (w1 : World) (hk : 1 ≤ k) (hk2 : (k : Int) ≤ 4480) (hL : L = max (k - 53) 1126)
    (hK : Hid (∀ a, At 70 [(1, .pointer (some ⟨b, 0, none⟩)), (3, .int .i64 ((k : Int) - 1)), (4, .int .i64 (L : Int)), (5, .int .i64 0)] a → Code.wp Try.prog (sq 7 body65) Q a w1)) (ha : At 70 [(1, .pointer (some ⟨b, 0, none⟩)), (3, .int .i64 ((k : Int) - 1))] a) : Code.wp Try.prog (sq 3 body65) Q a w1 := by
  obtain ⟨f, rfl, h1, h3, -⟩ := ha.lit
  change Code.wp _ _ _ ⟨#[f 0, f 1, f 2, f 3, f 4, f 5, f 6, f 7, f 8, f 9, f 10, f 11, f 12, f 13, f 14, f 15, f 16, f 17, f 18, f 19, f 20, f 21, f 22, f 23, f 24, f 25, f 26, f 27, f 28, f 29, f 30, f 31, f 32, f 33, f 34, f 35, f 36, f 37, f 38, f 39, f 40, f 41, f 42, f 43, f 44, f 45, f 46, f 47, f 48, f 49, f 50, f 51, f 52, f 53, f 54, f 55, f 56, f 57, f 58, f 59, f 60, f 61, f 62, f 63, f 64, f 65, f 66, f 67, f 68, f 69], []⟩ _
  simp only at h1 h3
  simp only [h1, h3]
  clear h1 h3
  change Code.wp _ (Code.seq (hd (sq 3 body65)) (Code.seq (hd (sq 4 body65)) (Code.seq (hd (sq 5 body65)) (Code.seq (hd (sq 6 body65)) (sq 7 body65))))) _ _ _
  generalize sq 7 body65 = REST at hK ⊢
  conv => arg 2; arg 1; whnf
  conv => arg 2; arg 2; arg 1; whnf
  conv => arg 2; arg 2; arg 2; arg 1; whnf
  conv => arg 2; arg 2; arg 2; arg 2; arg 1; whnf
  have n1 : decide ((k : Int) - 1 < 0) = false := by simp only [decide_eq_false_iff_not]; omega
  by_cases c : k < 1179
  · have n2 : decide ((k : Int) - 1 - 52 + -2200 < -1074) = true := by simp only [decide_eq_true_eq]; omega
    have n3 : L = 1126 := by omega
    subst n3
    clear c hL
    go_wp2
    exact hK.out _ ⟨rfl, rfl, rfl, rfl, rfl, rfl, trivial⟩
  · have n2 : decide ((k : Int) - 1 - 52 + -2200 < -1074) = false := by simp only [decide_eq_false_iff_not]; omega
    have n3 : Hid ((k : Int) - 1 - 52 = (L : Int)) := by show (k : Int) - 1 - 52 = (L : Int); omega
    clear c hL
    go_wp2
    refine hK.out _ ⟨rfl, rfl, rfl, rfl, ?_, rfl, trivial⟩
    rw [← n3.out]
    rfl
set_option maxRecDepth 100000 in
set_option maxHeartbeats 2000000 in
theorem bd_3 {Q : Exit → Act → World → Prop} (N k L b : Nat) (fD : Nat → Int) (a : Act) (w1 : World) (hk1 : 1 ≤ k) (hk : k ≤ 4480) (hLk : k ≤ L + 53) (hN : N < 2 ^ k) (bk : Bk w1 b fD) (k74 : Hid (∀ k : Nat, k < 4480 → ∀ w', Calls Try.prog 117 #[.agg (rowB fD), .int .i64 (k : Int)] w' fun e w'' => e = .returned (.int .i64 ((N / 2 ^ k % 2 : Nat) : Int)) ∧ Below w'.heap.size w' w''))
    (hK : Hid (∀ a w2, Below w1.heap.size w1 w2 → Bk w2 b fD → At 70 [(1, .pointer (some ⟨b, 0, none⟩)), (4, .int .i64 (L : Int)), (5, .int .i64 ((N / 2 ^ L : Nat) : Int))] a → Code.wp Try.prog (sq 8 body65) Q a w2)) (ha : At 70 [(1, .pointer (some ⟨b, 0, none⟩)), (3, .int .i64 ((k : Int) - 1)), (4, .int .i64 (L : Int)), (5, .int .i64 0)] a) : Code.wp Try.prog (sq 7 body65) Q a w1 := by
  obtain ⟨f, rfl, h1, h3, h4, h5, -⟩ := ha.lit
  change Code.wp _ _ _ ⟨#[f 0, f 1, f 2, f 3, f 4, f 5, f 6, f 7, f 8, f 9, f 10, f 11, f 12, f 13, f 14, f 15, f 16, f 17, f 18, f 19, f 20, f 21, f 22, f 23, f 24, f 25, f 26, f 27, f 28, f 29, f 30, f 31, f 32, f 33, f 34, f 35, f 36, f 37, f 38, f 39, f 40, f 41, f 42, f 43, f 44, f 45, f 46, f 47, f 48, f 49, f 50, f 51, f 52, f 53, f 54, f 55, f 56, f 57, f 58, f 59, f 60, f 61, f 62, f 63, f 64, f 65, f 66, f 67, f 68, f 69], []⟩ _
  simp only at h1 h3 h4 h5
  simp only [h1, h3, h4, h5]
  clear h1 h3 h4 h5
  change Code.wp _ (Code.seq (hd (sq 7 body65)) (sq 8 body65)) _ _ _
  generalize sq 8 body65 = REST at hK ⊢
  conv => arg 2; arg 1; whnf
  have BK : Hid (Bk w1 b fD) := bk
  have HN : Hid (N < 2 ^ k) := hN
  clear bk hN
  go_wp2_with fail
  go_loopw [5, 6] (fun y x wr => ∃ i m : Nat, i ≤ k ∧ (L ≤ i ∨ i = k) ∧ x = .int .i64 ((i : Int) - 1) ∧ y = .int .i64 (m : Int) ∧ Hid (m = N / 2 ^ i) ∧ Hid (Bk wr b fD) ∧ Hid (Below w1.heap.size w1 wr)) (fun _ x _ => (intOf x + 1).toNat)
  case atStart => exact ⟨k, 0, by omega, .inr rfl, rfl, rfl, (Nat.div_eq_of_lt HN.out).symm, BK.out, Below.refl _ _⟩
  case round =>
    clear BK
    obtain ⟨i, m, hi, hiL, rfl, rfl, hm, bk, bb⟩ := hrel
    by_cases c : L < i
    · obtain ⟨j, rfl⟩ : ∃ j, i = j + 1 := ⟨i - 1, by omega⟩
      rw [show ((j + 1 : Nat) : Int) - 1 = (j : Int) by omega]
      have hld := ld62 bk.out
      have n1 : decide ((L : Int) ≤ (j : Int)) = true := by simp only [decide_eq_true_eq]; omega
      have hm53 : m < 9007199254740992 := by
        rw [hm.out]
        exact top_small HN.out (by omega)
      go_wp2_with (refine wpList_ld rfl 75 _ rfl b rfl 280 Try.underlying75 rfl (by kernel_rfl) (rowB fD) bk.out.isRow bk.out.rowIn ?_)
      refine (k74.out j (by omega) _).mono ?_
      rintro e w2 ⟨rfl, b1⟩
      have bk1 : Hid (Bk w2 b fD) := bk.out.below b1
      have bb1 : Hid (Below w1.heap.size w1 w2) := bb.out.trans (b1.mono bb.out.size)
      have hm1 : Hid (2 * m + N / 2 ^ j % 2 = N / 2 ^ j) := by rw [hm.out]; exact bit_more N j
      have hb2 : N / 2 ^ j % 2 < 2 := Nat.mod_lt _ (by decide)
      clear b1 hld bb bk hm
      generalize N / 2 ^ j % 2 = bt at *
      have n2 : IntKind.i64.wrap ((2 : Int) * (m : Int) + (bt : Int)) = ((2 * m + bt : Nat) : Int) := by rw [IntKind.wrap_i64]; omega
      go_wp2
      exact ⟨⟨j, 2 * m + bt, by omega, by omega, by rfl, rfl, hm1.out, bk1.out, bb1.out⟩, by simp [intOf]⟩
    · have n1 : decide ((L : Int) ≤ (i : Int) - 1) = false := by simp only [decide_eq_false_iff_not]; omega
      have hm1 : Hid (m = N / 2 ^ L) := by
        show m = N / 2 ^ L
        rcases hiL with h | h
        · have e : i = L := by omega
          rw [hm.out, e]
        · subst h
          rw [hm.out, Nat.div_eq_of_lt HN.out, Nat.div_eq_of_lt (Nat.lt_of_lt_of_le HN.out (Nat.pow_le_pow_right (by decide) (by omega)))]
      clear hm
      go_wp2
      refine hK.out _ _ bb.out bk.out ⟨rfl, rfl, rfl, rfl, ?_, trivial⟩
      rw [← hm1.out]
      rfl
set_option maxRecDepth 100000 in
set_option maxHeartbeats 2000000 in
theorem bd_4 {Q : Exit → Act → World → Prop} (N L b : Nat) (fD : Nat → Int) (a : Act) (w1 : World) (hL1 : 1 ≤ L) (hL : L ≤ 4480) (bk : Bk w1 b fD) (k74 : Hid (∀ k : Nat, k < 4480 → ∀ w', Calls Try.prog 117 #[.agg (rowB fD), .int .i64 (k : Int)] w' fun e w'' => e = .returned (.int .i64 ((N / 2 ^ k % 2 : Nat) : Int)) ∧ Below w'.heap.size w' w''))
    (hK : Hid (∀ a w2, Below w1.heap.size w1 w2 → Bk w2 b fD → At 70 [(1, .pointer (some ⟨b, 0, none⟩)), (4, .int .i64 (L : Int)), (5, .int .i64 ((N / 2 ^ L : Nat) : Int)), (7, .bool (decide (N % 2 ^ (L - 1) ≠ 0)))] a → Code.wp Try.prog (sq 10 body65) Q a w2)) (ha : At 70 [(1, .pointer (some ⟨b, 0, none⟩)), (4, .int .i64 (L : Int)), (5, .int .i64 ((N / 2 ^ L : Nat) : Int))] a) : Code.wp Try.prog (sq 8 body65) Q a w1 := by
  obtain ⟨f, rfl, h1, h4, h5, -⟩ := ha.lit
  change Code.wp _ _ _ ⟨#[f 0, f 1, f 2, f 3, f 4, f 5, f 6, f 7, f 8, f 9, f 10, f 11, f 12, f 13, f 14, f 15, f 16, f 17, f 18, f 19, f 20, f 21, f 22, f 23, f 24, f 25, f 26, f 27, f 28, f 29, f 30, f 31, f 32, f 33, f 34, f 35, f 36, f 37, f 38, f 39, f 40, f 41, f 42, f 43, f 44, f 45, f 46, f 47, f 48, f 49, f 50, f 51, f 52, f 53, f 54, f 55, f 56, f 57, f 58, f 59, f 60, f 61, f 62, f 63, f 64, f 65, f 66, f 67, f 68, f 69], []⟩ _
  simp only at h1 h4 h5
  simp only [h1, h4, h5]
  clear h1 h4 h5
  change Code.wp _ (Code.seq (hd (sq 8 body65)) (Code.seq (hd (sq 9 body65)) (sq 10 body65))) _ _ _
  generalize sq 10 body65 = REST at hK ⊢
  conv => arg 2; arg 1; whnf
  conv => arg 2; arg 2; arg 1; whnf
  have BK : Hid (Bk w1 b fD) := bk
  clear bk
  generalize ((N / 2 ^ L : Nat) : Int) = M at *
  go_wp2_with fail
  go_loopw [7, 8] (fun y x wr => ∃ (i : Nat) (r : Bool), i ≤ L - 1 ∧ x = .int .i64 (i : Int) ∧ y = .bool r ∧ Hid (r = decide (N % 2 ^ i ≠ 0)) ∧ Hid (Bk wr b fD) ∧ Hid (Below w1.heap.size w1 wr)) (fun _ x _ => L - 1 - (intOf x).toNat)
  case atStart => exact ⟨0, false, by omega, rfl, rfl, by rw [Nat.pow_zero, Nat.mod_one]; rfl, BK.out, Below.refl _ _⟩
  case round =>
    clear BK
    obtain ⟨i, r, hi, rfl, rfl, hr, bk, bb⟩ := hrel
    by_cases c : i < L - 1
    · have n1 : decide ((i : Int) < (L : Int) - 1) = true := by simp only [decide_eq_true_eq]; omega
      cases r with
      | true =>
        have hr1 : Hid (true = decide (N % 2 ^ (i + 1) ≠ 0)) := (rest_more hr.out).symm
        clear hr
        go_wp2
        exact ⟨⟨i + 1, true, by omega, by go_num, rfl, hr1.out, bk.out, bb.out⟩, by simp [intOf]; omega⟩
      | false =>
        have hld := ld62 bk.out
        go_wp2_with fail
        refine oper_ld 75 _ rfl b rfl _ hld ?_
        go_wp2_with fail
        refine (k74.out i (by omega) _).mono ?_
        rintro e w2 ⟨rfl, b1⟩
        have bk1 : Hid (Bk w2 b fD) := bk.out.below b1
        have bb1 : Hid (Below w1.heap.size w1 w2) := bb.out.trans (b1.mono bb.out.size)
        have hr1 : Hid ((N / 2 ^ i % 2 == 1) = decide (N % 2 ^ (i + 1) ≠ 0)) := rest_bit hr.out
        clear b1 hld bb bk hr
        rcases (show N / 2 ^ i % 2 = 0 ∨ N / 2 ^ i % 2 = 1 by omega) with hb | hb
        · have hr2 : Hid (false = decide (N % 2 ^ (i + 1) ≠ 0)) := by rw [← hr1.out, hb]; rfl
          rw [hb]
          clear hb hr1
          go_wp2
          exact ⟨⟨i + 1, false, by omega, by go_num, rfl, hr2.out, bk1.out, bb1.out⟩, by simp [intOf]; omega⟩
        · have hr2 : Hid (true = decide (N % 2 ^ (i + 1) ≠ 0)) := by rw [← hr1.out, hb]; rfl
          rw [hb]
          clear hb hr1
          go_wp2
          exact ⟨⟨i + 1, true, by omega, by go_num, rfl, hr2.out, bk1.out, bb1.out⟩, by simp [intOf]; omega⟩
    · have n1 : decide ((i : Int) < (L : Int) - 1) = false := by simp only [decide_eq_false_iff_not]; omega
      have e : i = L - 1 := by omega
      have hr1 : Hid (decide (N % 2 ^ (L - 1) ≠ 0) = r) := by rw [← e]; exact hr.out.symm
      clear hr e
      go_wp2
      rw [hr1.out] at hK
      exact hK.out _ _ bb.out bk.out ⟨rfl, rfl, rfl, rfl, rfl, rfl, trivial⟩
set_option maxRecDepth 100000 in
set_option maxHeartbeats 2000000 in
theorem bd_5 {Q : Ending → World → Prop} (N M L b bt X : Nat) (r : Bool) (fD : Nat → Int) (a : Act) (w1 : World) (hL1 : 1 ≤ L) (hL : L ≤ 4480) (bk : Bk w1 b fD) (hM : M < 9007199254740992) (hbt : bt < 2)
    (k74 : ∀ w', Calls Try.prog 117 #[.agg (rowB fD), .int .i64 ((L : Int) - 1)] w' fun e w'' => e = .returned (.int .i64 (bt : Int)) ∧ Below w'.heap.size w' w'')
    (hX : X = M + if (bt == 1 && (r || M % 2 == 1)) = true then 1 else 0)
    (k75 : ∀ w', Calls Try.prog 118 #[.int .i64 (X : Int), .int .i64 ((L : Int) - 2200)] w' fun e w'' => e = .returned (.float .f64 N) ∧ w'' = w')
    (hQ : Hid (∀ w2, Below w1.heap.size w1 w2 → Q (.returned (.float .f64 N)) w2)) (ha : At 70 [(1, .pointer (some ⟨b, 0, none⟩)), (4, .int .i64 (L : Int)), (5, .int .i64 (M : Int)), (7, .bool r)] a) : Code.wp Try.prog (sq 10 body65) (bodyPost Try.prog Try.f97 Q) a w1 := by
  obtain ⟨f, rfl, h1, h4, h5, h7, -⟩ := ha.lit
  change Code.wp _ _ _ ⟨#[f 0, f 1, f 2, f 3, f 4, f 5, f 6, f 7, f 8, f 9, f 10, f 11, f 12, f 13, f 14, f 15, f 16, f 17, f 18, f 19, f 20, f 21, f 22, f 23, f 24, f 25, f 26, f 27, f 28, f 29, f 30, f 31, f 32, f 33, f 34, f 35, f 36, f 37, f 38, f 39, f 40, f 41, f 42, f 43, f 44, f 45, f 46, f 47, f 48, f 49, f 50, f 51, f 52, f 53, f 54, f 55, f 56, f 57, f 58, f 59, f 60, f 61, f 62, f 63, f 64, f 65, f 66, f 67, f 68, f 69], []⟩ _
  simp only at h1 h4 h5 h7
  simp only [h1, h4, h5, h7]
  clear h1 h4 h5 h7
  conv => arg 2; whnf
  have k75' : ∀ w', Calls Try.prog 118 #[.int .i64 (X : Int), .int .i64 ((L : Int) + -2200)] w' fun e w'' => e = .returned (.float .f64 N) ∧ w'' = w' := k75
  clear k75
  go_wp2_with (refine wpList_ld rfl 75 _ rfl b rfl 280 Try.underlying75 rfl (by kernel_rfl) (rowB fD) bk.isRow bk.rowIn ?_)
  refine (k74 _).mono ?_
  rintro e w2 ⟨rfl, b1⟩
  have hr2 : ((M : Nat) : Int) % 2 = ((M % 2 : Nat) : Int) := by omega
  have B1 : Hid (Below w1.heap.size w1 w2) := b1
  clear b1 k74
  rcases (show bt = 0 ∨ bt = 1 by omega) with rfl | rfl
  · have e1 : X = M := hX
    subst e1
    clear hX
    go_wp2_with fail
    refine (k75' _).mono ?_
    rintro e w3 ⟨rfl, rfl⟩
    go_wp2
    exact hQ.out _ B1.out
  · rcases (show M % 2 = 0 ∨ M % 2 = 1 by omega) with hm | hm
    · rw [hm] at hr2 hX
      cases r
      · have e1 : X = M := hX
        subst e1
        clear hX
        go_wp2_with fail
        refine (k75' _).mono ?_
        rintro e w3 ⟨rfl, rfl⟩
        go_wp2
        exact hQ.out _ B1.out
      · have e1 : (X : Int) = (M : Int) + 1 := by have : X = M + 1 := hX; omega
        rw [e1] at k75'
        clear hX
        go_wp2_with fail
        refine (k75' _).mono ?_
        rintro e w3 ⟨rfl, rfl⟩
        go_wp2
        exact hQ.out _ B1.out
    · have e1 : (X : Int) = (M : Int) + 1 := by rw [hm] at hX; have : X = M + 1 := by rw [hX]; cases r <;> rfl
                                                omega
      rw [hm] at hr2
      rw [e1] at k75'
      clear hX
      cases r
      · go_wp2_with fail
        refine (k75' _).mono ?_
        rintro e w3 ⟨rfl, rfl⟩
        go_wp2
        exact hQ.out _ B1.out
      · go_wp2_with fail
        refine (k75' _).mono ?_
        rintro e w3 ⟨rfl, rfl⟩
        go_wp2
        exact hQ.out _ B1.out
theorem rnd_doc (N L : Nat) (hL : 1 ≤ L) : rnd N L = N / 2 ^ L + if (N / 2 ^ (L - 1) % 2 == 1 && (decide (N % 2 ^ (L - 1) ≠ 0) || N / 2 ^ L % 2 == 1)) = true then 1 else 0 := by
  obtain ⟨j, rfl⟩ : ∃ j, L = j + 1 := ⟨L - 1, by omega⟩
  rw [round_is]
  have e1 : hfN N (j + 1) = (N / 2 ^ j % 2 == 1) := rfl
  have e2 : skN N (j + 1) = decide (N % 2 ^ j ≠ 0) := by
    have h := lost N j
    have e3 : skN N (j + 1) = (skN N j || hfN N j) := rfl
    rw [e3, Bool.eq_iff_iff, decide_eq_true_eq, ← h, Bool.or_eq_true]
    exact Or.comm
  rw [e1, e2]
  rfl
set_option maxHeartbeats 400000 in
theorem rounded_doc (D : Nat → Nat) (w : World) (hD : ∀ j, j < 280 → D j < 65536) : Calls Try.prog 97 #[.agg (rowB fun j => ((D j : Nat) : Int))] w fun e w' => e = .returned (.float .f64 (rdB (bigN D 280))) ∧ Below w.heap.size w w' := by
  have k74 : ∀ k : Nat, k < 4480 → ∀ w', Calls Try.prog 117 #[.agg (rowB fun i => ((D i : Nat) : Int)), .int .i64 (k : Int)] w' fun e w'' => e = .returned (.int .i64 ((bigN D 280 / 2 ^ k % 2 : Nat) : Int)) ∧ Below w'.heap.size w' w'' := fun k hk w' => by
    rw [bit_is hD (by omega)]
    exact bit_any D k w' hk
  have hN : bigN D 280 < 2 ^ 4480 := by
    rw [← pow_flat 280 4480 (by omega)]
    exact bigN_lt 280 hD
  generalize bigN D 280 = N at *
  generalize (fun j => ((D j : Nat) : Int)) = fD at *
  refine bd_1 N fD w hN k74 fun a w1 k hk hNk hk' bk bb ha => ?_
  by_cases c : k = 0
  · subst c
    have e0 : N = 0 := by rw [Nat.pow_zero] at hNk; omega
    have e1 : rdB N = 0 := by unfold rdB; rw [if_pos e0]
    exact bd_0 w.heap.size a w1 ⟨by rw [e1], bb⟩ ha
  · have hp : 2 ^ (k - 1) ≤ N := by omega
    have hN0 : N ≠ 0 := by have := Nat.two_pow_pos (k - 1); omega
    have hlen : lenN N = k := by
      have := lenN_is (n := N) (l := k - 1) hp (by rw [show k - 1 + 1 = k by omega]; exact hNk)
      omega
    obtain ⟨L, hL⟩ : ∃ L, lowR N = L := ⟨_, rfl⟩
    have hLk : L = max (k - 53) 1126 := by rw [← hL]; unfold lowR; rw [hlen]
    have hR : rdB N = scB (rnd N L) ((L : Int) - 2200) := by unfold rdB; rw [if_neg hN0, hL]
    rw [hR]
    have hM : N / 2 ^ L < 9007199254740992 := top_small hNk (by omega)
    refine bd_2 k L w.heap.size a w1 (by omega) (by omega) hLk (fun a ha => ?_) ha
    refine bd_3 N k L w.heap.size fD a w1 (by omega) (by omega) (by omega) hNk bk k74 (fun a w2 b2 bk2 ha => ?_) ha
    refine bd_4 N L w.heap.size fD a w2 (by omega) (by omega) bk2 k74 (fun a w3 b3 bk3 ha => ?_) ha
    have hx := rnd_doc N L (by omega)
    have hxl := rnd_le N L
    refine bd_5 _ (N / 2 ^ L) L w.heap.size (N / 2 ^ (L - 1) % 2) (rnd N L) _ fD a w3 (by omega) (by omega) bk3 hM (Nat.mod_lt _ (by decide)) (fun w' => ?_) hx (fun w' => scaled_any _ _ w' (by omega) (by omega) (by omega)) (fun w4 b4 => ⟨rfl, ?_⟩) ha
    · have := k74 (L - 1) (by omega) w'
      rw [show ((L - 1 : Nat) : Int) = (L : Int) - 1 by omega] at this
      exact this
    · have s1 := bb.size
      have s2 := b2.size
      have s3 := b3.size
      exact ((bb.trans (b2.mono s1)).trans (b3.mono (by omega))).trans (b4.mono (by omega))
end Go.Proofs.Ytdhfkdopcphjlab
