/-
  What the statement of Scale asks: it is true. Condition: the numbers fit their types.
-/
import Derived.Test.YtjcjecbffnadaabLawS
namespace Go.Proofs.Ytjcjecbffnadaab
open Go.RowKit
theorem pt_inf {p k : Nat} {bi : Int} {b : Nat} (h : (pt p k bi b).kind = 3) : pt p k bi b = ⟨3, (pt p k bi b).neg, 0, 0, false, 0⟩ := by
  revert h
  unfold pt
  repeat' split
  all_goals (dsimp only; intro h; first | rfl | (exact absurd h (by decide)))
theorem pt_zero {p k : Nat} {bi : Int} (L : Lay p k bi) {b : Nat} (h3 : ¬ (pt p k bi b).kind = 3) (h4 : ¬ (pt p k bi b).kind = 4) (h : (pt p k bi b).mant = 0) : 1 - bi - p ≤ (pt p k bi b).exp := by
  have hbi := L.bi0
  have hp1 := L.p1
  have hpp := L.pp
  revert h h3 h4
  unfold pt
  repeat' split
  all_goals (dsimp only; intro h3 h4 h; omega)
theorem near_top {n : Nat} {y : Int} (h0 : ¬ n = 0) (hn : n < 18446744073709551616) (hy : 1024 ≤ y) : nearB 52 11 1023 n y = 9218868437227405312 := by
  obtain ⟨l1, l2, l3⟩ := len_of h0 hn
  unfold nearB
  rw [if_neg h0, if_pos (by omega)]
theorem near_nil {n : Nat} {y : Int} (h0 : ¬ n = 0) (hn : n < 18446744073709551616) (hy : y ≤ -1140) : nearB 52 11 1023 n y = 0 := by
  obtain ⟨l1, l2, l3⟩ := len_of h0 hn
  unfold nearB
  rw [if_neg h0, if_neg (by omega)]
  have e3 : max (y + (Lib.bitLen n : Nat) - 1 - ((52 : Nat) : Int)) (1 - 1023 - ((52 : Nat) : Int)) = -1074 := by omega
  rw [e3]
  have e4 : (-1074 - (1 - 1023 - ((52 : Nat) : Int))).toNat = 0 := by decide
  rw [e4]
  obtain ⟨s, hs⟩ : ∃ s : Nat, -1074 - y = s := ⟨_, (Int.toNat_of_nonneg (by omega)).symm⟩
  have h66 : n * 2 < 2 ^ s := by
    have : 2 ^ 66 ≤ 2 ^ s := Nat.pow_le_pow_right (by omega) (by omega)
    omega
  unfold inU
  rw [hs, if_neg (by omega), Int.toNat_natCast]
  unfold rnd
  rw [Nat.mod_eq_of_lt (by omega), Nat.div_eq_of_lt (by omega), if_neg (by omega)]
theorem near_move {n : Nat} {X m : Int} (h0 : ¬ n = 0) (hn : n < 18446744073709551616) (h1 : -1100 ≤ X) (h2 : X ≤ 1000) : nearB 52 11 1023 n (X + min (max m (-4096)) 4096) = nearB 52 11 1023 n (X + min (max m (-6000)) 6000) := by
  by_cases c1 : 4096 ≤ m
  · rw [near_top h0 hn (by omega), near_top h0 hn (by omega)]
  by_cases c2 : m ≤ -4096
  · rw [near_nil h0 hn (by omega), near_nil h0 hn (by omega)]
  · have : min (max m (-4096)) 4096 = min (max m (-6000)) 6000 := by omega
    rw [this]
theorem len53 {M : Nat} (h1 : 4503599627370496 ≤ M) (h2 : M < 9007199254740992) : Lib.bitLen M = 53 := len_at (n := 52) (by omega) (by omega) (by omega)
/-- A number of 53 bits, where nothing is lost. -/
theorem near_full {M : Nat} {e : Int} (h1 : 4503599627370496 ≤ M) (h2 : M < 9007199254740992) (he1 : -1074 ≤ e) (he2 : e ≤ 971) : nearB 52 11 1023 M e = (e + 1074).toNat * 4503599627370496 + M := by
  have hl := len53 h1 h2
  unfold nearB
  rw [if_neg (by omega), hl, if_neg (by omega)]
  have e3 : max (e + ((53 : Nat) : Int) - 1 - ((52 : Nat) : Int)) (1 - 1023 - ((52 : Nat) : Int)) = e := by omega
  rw [e3]
  have e4 : (e - (1 - 1023 - ((52 : Nat) : Int))).toNat = (e + 1074).toNat := by omega
  have e5 : inU M (e - e) = M := by
    unfold inU
    rw [if_pos (by omega), show (-(e - e)).toNat = 0 by omega, Nat.pow_zero, Nat.mul_one]
  rw [e4, e5]
theorem pt_full {M : Nat} {e : Int} (ng : Bool) (h1 : 4503599627370496 ≤ M) (h2 : M < 9007199254740992) (he1 : -1074 ≤ e) (he2 : e ≤ 971) : pt 52 11 1023 ((if ng = true then 9223372036854775808 else 0) + ((e + 1074).toNat * 4503599627370496 + M)) = ⟨2, ng, M, e, false, 0⟩ := by
  have q1 : (2 : Nat) ^ 52 = 4503599627370496 := by decide
  have q2 : (2 : Nat) ^ 11 = 2048 := by decide
  have q3 : (2 : Nat) ^ (52 + 11) = 9223372036854775808 := by decide
  obtain ⟨E, hE⟩ : ∃ E : Nat, e + 1074 = E := ⟨_, (Int.toNat_of_nonneg (by omega)).symm⟩
  rw [hE, Int.toNat_natCast]
  unfold pt sg
  rw [q1, q2, q3]
  have d1 : ((if ng = true then 9223372036854775808 else 0) + (E * 4503599627370496 + M)) / 4503599627370496 % 2048 = E + 1 := by
    cases ng <;> simp <;> omega
  have d2 : ((if ng = true then 9223372036854775808 else 0) + (E * 4503599627370496 + M)) % 4503599627370496 = M - 4503599627370496 := by
    cases ng <;> simp <;> omega
  have d3 : ((if ng = true then 9223372036854775808 else 0) + (E * 4503599627370496 + M)) / 9223372036854775808 % 2 = if ng then 1 else 0 := by
    cases ng <;> simp <;> omega
  rw [d1, d2, d3, if_neg (by omega), if_neg (by omega)]
  simp only [Pt.mk.injEq, true_and, and_true]
  refine ⟨by cases ng <;> simp, by omega, by omega⟩
theorem near_low_le {M : Nat} {e : Int} (h1 : 4503599627370496 ≤ M) (h2 : M < 9007199254740992) (he : e < -1074) : nearB 52 11 1023 M e ≤ M / 2 + 1 := by
  have hl := len53 h1 h2
  unfold nearB
  rw [if_neg (by omega), hl, if_neg (by omega)]
  have e3 : max (e + ((53 : Nat) : Int) - 1 - ((52 : Nat) : Int)) (1 - 1023 - ((52 : Nat) : Int)) = -1074 := by omega
  rw [e3]
  have e4 : (-1074 - (1 - 1023 - ((52 : Nat) : Int))).toNat = 0 := by decide
  rw [e4]
  obtain ⟨s, hs⟩ : ∃ s : Nat, -1074 - e = ((s + 1 : Nat) : Int) := ⟨(-1074 - e - 1).toNat, by omega⟩
  unfold inU
  rw [hs, if_neg (by omega), Int.toNat_natCast]
  have hr := rnd_le M (s + 1)
  have hd : M / 2 ^ (s + 1) ≤ M / 2 := by
    refine Nat.div_le_div_left ?_ (by omega)
    rw [Nat.pow_succ]
    have := Nat.two_pow_pos s
    omega
  omega
theorem pt_mant (ng : Bool) {v : Nat} (hv : v ≤ 4503599627370496) (hk : (pt 52 11 1023 ((if ng = true then 9223372036854775808 else 0) + v)).kind = 2) : (pt 52 11 1023 ((if ng = true then 9223372036854775808 else 0) + v)).mant = 4503599627370496 ∧ v = 4503599627370496 := by
  by_cases c : v = 4503599627370496
  · subst c
    cases ng <;> decide +kernel
  · obtain ⟨h, _⟩ := kind64 ((if ng = true then 9223372036854775808 else 0) + v) (by cases ng <;> simp <;> omega)
    have hm : ((if ng = true then 9223372036854775808 else 0) + v) % 9223372036854775808 = v := by cases ng <;> simp <;> omega
    have hn := nan64_is (b := (if ng = true then 9223372036854775808 else 0) + v) (by cases ng <;> simp <;> omega)
    rw [hm] at h hn
    rw [hn, decide_eq_false (by omega)] at h
    rw [h, if_neg (by simp), if_neg (by omega)] at hk
    split at hk
    · exact absurd hk (by decide)
    · rw [if_pos (by omega)] at hk
      exact absurd hk (by decide)
theorem inf_kind (ng : Bool) : ¬ (pt 52 11 1023 ((if ng = true then 9223372036854775808 else 0) + 9218868437227405312)).kind = 2 := by cases ng <;> decide +kernel
/-- There and back, where nothing was lost. -/
theorem scale_back {ng : Bool} {M : Nat} {X n : Int} (h1 : 4503599627370496 ≤ M) (h2 : M < 9007199254740992) (hx1 : -1074 ≤ X) (hx2 : X ≤ 971)
    (hk : (pt 52 11 1023 ((if ng = true then 9223372036854775808 else 0) + nearB 52 11 1023 M (X + min (max n (-4096)) 4096))).kind = 2)
    (hm : (pt 52 11 1023 ((if ng = true then 9223372036854775808 else 0) + nearB 52 11 1023 M (X + min (max n (-4096)) 4096))).mant = M) :
    min (max n (-4096)) 4096 = n ∧ pt 52 11 1023 ((if ng = true then 9223372036854775808 else 0) + nearB 52 11 1023 M (X + min (max n (-4096)) 4096)) = ⟨2, ng, M, X + n, false, 0⟩ := by
  generalize hcl : min (max n (-4096)) 4096 = cl at *
  by_cases c1 : 971 < X + cl
  · have hi : nearB 52 11 1023 M (X + cl) = 9218868437227405312 := by
      have hl := len53 h1 h2
      unfold nearB
      rw [if_neg (by omega), hl, if_pos (by omega)]
    rw [hi] at hk
    exact absurd hk (inf_kind ng)
  by_cases c2 : X + cl < -1074
  · have hle := near_low_le h1 h2 c2
    obtain ⟨q1, q2⟩ := pt_mant ng (by omega) hk
    omega
  · have e := near_full h1 h2 (e := X + cl) (by omega) (by omega)
    rw [e, pt_full ng h1 h2 (by omega) (by omega)]
    have : cl = n := by omega
    rw [this]
    exact ⟨rfl, rfl⟩
theorem pt_two_b {b : Nat} (h : (pt 52 11 1023 b).kind = 2) : 4503599627370496 ≤ (pt 52 11 1023 b).mant ∧ (pt 52 11 1023 b).mant < 9007199254740992 ∧ -1074 ≤ (pt 52 11 1023 b).exp ∧ (pt 52 11 1023 b).exp ≤ 971 ∧ (pt 52 11 1023 b).quiet = false ∧ (pt 52 11 1023 b).load = 0 := by
  have q1 : (2 : Nat) ^ 52 = 4503599627370496 := by decide
  have q2 : (2 : Nat) ^ 11 = 2048 := by decide
  revert h
  unfold pt
  rw [q1, q2]
  have := Nat.mod_lt b (show 4503599627370496 > 0 by decide)
  have := Nat.mod_lt (b / 4503599627370496) (show 2048 > 0 by decide)
  repeat' split
  all_goals (dsimp only; intro h; first | (exact absurd h (by decide)) | (refine ⟨by omega, by omega, by omega, by omega, rfl, rfl⟩))
theorem bits_back (b : Nat) (hb : b < 18446744073709551616) (h3 : ¬ (pt 52 11 1023 b).kind = 3) (h4 : ¬ (pt 52 11 1023 b).kind = 4) : rndB 52 11 1023 (pt 52 11 1023 b) = b := by
  have hid := nearB_id lay64 b h3 h4
  have hneg := (kind64 b hb).2
  unfold rndB
  rw [if_neg h4, if_neg h3, hid, hneg]
  have q3 : (2 : Nat) ^ (52 + 11) = 9223372036854775808 := by decide
  rw [q3]
  by_cases c : 9223372036854775808 ≤ b
  · simp [c]; omega
  · simp [c]; omega
theorem inf_back (b : Nat) (hb : b < 18446744073709551616) (h3 : (pt 52 11 1023 b).kind = 3) : (if (pt 52 11 1023 b).neg = true then 9223372036854775808 else 0) + 9218868437227405312 = b := by
  obtain ⟨hk, hneg⟩ := kind64 b hb
  rw [hneg]
  rw [hk] at h3
  have hm : b % 9223372036854775808 = 9218868437227405312 := by
    split at h3
    · exact absurd h3 (by decide)
    · split at h3
      · assumption
      · split at h3
        · exact absurd h3 (by decide)
        · split at h3 <;> exact absurd h3 (by decide)
  by_cases c : 9223372036854775808 ≤ b
  · simp [c]; omega
  · simp [c]; omega
set_option maxHeartbeats 1000000 in
theorem law_s (b : Nat) (n : Int) (w : World) (hb : b < 18446744073709551616) : Calls Try.prog 3 #[.int .u64 (b : Int), .int .i64 n] w fun e w' => e = .returned (.bool true) ∧ Below w.heap.size w w' := by
  have k11 := fun w => rparts_any lay64 b w hb
  have sm := pt_small lay64 b
  have k13 := fun w => scale_any b n w hb
  have k13b := fun v (hv : v < 18446744073709551616) m w => scale_any v m w hv
  have k11b := fun v (hv : v < 18446744073709551616) w => rparts_any lay64 v w hv
  have h2b := pt_two_b (b := b)
  have hbk := bits_back b hb
  have hib := inf_back b hb
  have hz := fun h3 h4 => pt_zero lay64 (b := b) h3 h4
  have hinf := pt_inf (p := 52) (k := 11) (bi := 1023) (b := b)
  have hk64 := (kind64 b hb).1
  have hne : (pt 52 11 1023 b).kind = 1 ∨ (pt 52 11 1023 b).kind = 2 → ¬ (pt 52 11 1023 b).mant = 0 := by
    have q1 : (2 : Nat) ^ 52 = 4503599627370496 := by decide
    unfold pt
    repeat' split
    all_goals (dsimp only; intro h; omega)
  have hkd : (pt 52 11 1023 b).kind = 0 ∨ (pt 52 11 1023 b).kind = 1 ∨ (pt 52 11 1023 b).kind = 2 ∨ (pt 52 11 1023 b).kind = 3 ∨ (pt 52 11 1023 b).kind = 4 := by
    unfold pt
    repeat' split
    all_goals (dsimp only; omega)
  have hm0 : (pt 52 11 1023 b).kind = 0 → (pt 52 11 1023 b).mant = 0 := by
    unfold pt
    repeat' split
    all_goals (dsimp only; intro h; omega)
  have pe2 : -1100 ≤ (pt 52 11 1023 b).exp ∧ (pt 52 11 1023 b).exp ≤ 1000 := by
    have hE : b / 2 ^ 52 % 2 ^ 11 < 2 ^ 11 := Nat.mod_lt _ (by decide)
    unfold pt
    repeat' split
    all_goals (dsimp only; constructor <;> omega)
  have hlt := rndB_lt lay64 { pt 52 11 1023 b with exp := (pt 52 11 1023 b).exp + min (max n (-4096)) 4096 } sm.1
  generalize hV : rndB 52 11 1023 { pt 52 11 1023 b with exp := (pt 52 11 1023 b).exp + min (max n (-4096)) 4096 } = V at *
  generalize hx : pt 52 11 1023 b = y at *
  obtain ⟨kd, ng, M, X, qu, LD⟩ := y
  unfold Pt.val at k11
  dsimp only at *
  have q3 : (2 : Nat) ^ (52 + 11) = 9223372036854775808 := by decide
  have q4 : (2 : Nat) ^ (52 + 11 + 1) = 18446744073709551616 := by decide
  rw [q4] at hlt
  refine s3_a b V n kd X ng qu M LD w k11 k13 fun a w1 g B1 r1 ha => ?_
  by_cases h4 : kd = 4
  · have hVn : nan64 V = true := by
      rw [← hV, h4]
      show nan64 ((2 ^ 11 - 1) * 2 ^ 52 + 2 ^ (52 - 1)) = true
      rw [nan64_is (by decide)]
      decide
    exact s3_4 b g V n kd X ng qu M LD a w1 w B1 r1 h4 (by rw [nan_order]; exact hVn) ha
  by_cases h3 : kd = 3
  · have hVb : V = b := by
      rw [← hib h3, ← hV]
      unfold rndB
      dsimp only
      rw [if_neg h4, if_pos h3, q3]
    subst hVb
    exact s3_3 V g V n kd X ng qu M LD a w1 w B1 r1 h3 (fun w => is_same V hlt w) ha
  have hVv : V = (if ng = true then 9223372036854775808 else 0) + nearB 52 11 1023 M (X + min (max n (-4096)) 4096) := by
    rw [← hV]
    unfold rndB
    dsimp only
    rw [if_neg h4, if_neg h3, q3]
  by_cases h0 : kd = 0
  · have hM := hm0 h0
    have hVb : V = b := by
      have hbk := hbk h3 h4
      rw [← hbk, hVv, hM, nearB_nought]
      unfold rndB
      dsimp only
      rw [if_neg h4, if_neg h3, q3, nearB_nought]
    subst hVb
    exact s3_0 V g V n kd X ng qu M LD a w1 w B1 r1 h0 (fun w => is_same V hlt w) ha
  have hMn := hne (by omega)
  have go : ∀ a w', Below w1.heap.size w1 w' → At 74 [(0, .int .u64 (b : Int)), (1, .int .i64 n), (6, .pointer (some ⟨g, 0, none⟩)), (7, .float .f64 V)] a → Code.wp Try.prog (sq 6 body3) (bodyPost Try.prog Try.f3 fun r w' => r = .returned (.bool true) ∧ Below w.heap.size w w') a w' := fun a w2 B2 ha => by
    have r2 := below_at r1 B2
    have B2 : Below w.heap.size w w2 := B1.trans (B2.mono B1.size)
    have k15 := fun w => rrounded_any lay64 ng M (X + min (max n (-6000)) 6000) w hMn sm.1 (by omega) (by omega)
    have hv2 : (if ng = true then 2 ^ (52 + 11) else 0) + nearB 52 11 1023 M (X + min (max n (-6000)) 6000) = V := by
      rw [hVv, near_move hMn sm.1 pe2.1 pe2.2, q3]
    rw [hv2] at k15
    refine s3_b b g V n kd X ng qu M LD a w2 _ _ r2 rfl (i64_in _ (by omega) (by omega)) size64_any k15 (fun w => is_same V hlt w) (fun a w3 B3 ha => ?_) ha
    have r3 := below_at r2 B3
    have B3 : Below w.heap.size w w3 := B2.trans (B3.mono B2.size)
    have k11 := k11b V hlt
    have hback := @scale_back ng M X n
    rw [← hVv] at hback
    have k13 := k13b V hlt (-n)
    have hbits := bits_back b hb
    rw [hx] at hbits
    generalize hx2 : pt 52 11 1023 V = y at *
    obtain ⟨kd2, ng2, M2, X2, qu2, LD2⟩ := y
    unfold Pt.val at k11
    dsimp only at *
    refine s3_c b g V n _ kd2 X2 ng2 qu2 M2 LD2 a w3 size64_any k11 (fun a w4 g2 B4 r4 ha => ?_) ha
    have r5 := below_at r3 B4
    have B4 : Below w.heap.size w w4 := B3.trans (B4.mono B3.size)
    by_cases c1 : kd = 2
    · by_cases c2 : kd2 = 2
      · by_cases c3 : M2 = M
        · obtain ⟨u1, u2, u3, u4, u5, u6⟩ := h2b c1
          obtain ⟨e1, e2⟩ := hback u1 u2 u3 u4 c2 c3
          have e3 : min (max n (-6000)) 6000 = n := by omega
          rw [e3] at ha
          have e4 : rndB 52 11 1023 ⟨kd2, ng2, M2, X2 + min (max (-n) (-4096)) 4096, qu2, LD2⟩ = b := by
            rw [← hbits h3 h4]
            simp only [Pt.mk.injEq] at e2
            obtain ⟨_, f1, f2, f3, f4, f5⟩ := e2
            rw [f1, f2, f3, f4, f5, c1, u5, u6, c2]
            have e5 : X + n + min (max (-n) (-4096)) 4096 = X := by omega
            rw [e5]
          rw [e4] at k13
          exact s3_d4 b g g2 V n n kd X ng qu M LD kd2 X2 ng2 qu2 M2 LD2 a w w4 B4 r5 r4 c1 c2 c3 (-n) (i64_in _ (by omega) (by omega)) k13 (fun w => is_same b hb w) ha
        · exact s3_d3 b g g2 V n _ kd X ng qu M LD kd2 X2 ng2 qu2 M2 LD2 a w w4 B4 r5 r4 c1 c2 (by simp; omega) ha
      · exact s3_d2 b g g2 V n _ kd X ng qu M LD kd2 X2 ng2 qu2 M2 LD2 a w w4 B4 r5 r4 c1 (by simpa using c2) ha
    · exact s3_d1 b g g2 V n _ kd X ng qu M LD kd2 X2 ng2 qu2 M2 LD2 a w w4 B4 r5 r4 (by simpa using c1) ha
  rcases hkd with h | h | h | h | h
  · exact absurd h h0
  · exact s3_1 b g V n kd X ng qu M LD a w1 r1 h go ha
  · exact s3_2 b g V n kd X ng qu M LD a w1 r1 h go ha
  · exact absurd h h3
  · exact absurd h h4
end Go.Proofs.Ytjcjecbffnadaab
