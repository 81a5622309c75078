/-
  What the statement of what rises asks: it is true. Condition: the floats' bits fit.
-/
import Derived.Test.YtjcjecbffnadaabRi
namespace Go.Proofs.Ytjcjecbffnadaab
open Go.RowKit
theorem plc_flip {x : Nat} (h : x < 18446744073709551616) : plc64 (flipB x) = -plc64 x := by
  unfold flipB plc64
  split <;> split <;> omega
theorem nan_flip {x : Nat} (h : x < 18446744073709551616) (hn : nan64 x = false) : nan64 (flipB x) = false := by
  rw [nan64_is (flip_lt h)]
  rw [nan64_is h] at hn
  have := of_decide_eq_false hn
  refine decide_eq_false ?_
  unfold flipB
  split <;> omega
theorem plc_up {x : Nat} (h : x < 18446744073709551616) (hn : nan64 x = false) (hp : plc64 x < 9218868437227405312) : plc64 (upB x) = plc64 x + 1 ∧ nan64 (upB x) = false := by
  have hl := up_lt h
  have h1 := hn
  rw [nan64_is h] at h1
  have h2 := of_decide_eq_false h1
  rw [nan64_is hl]
  have e : upB x = if x = 9218868437227405312 then x else if x = 0 ∨ x = 9223372036854775808 then 1 else if 9223372036854775808 ≤ x then x - 1 else x + 1 := by unfold upB; rw [hn]; rfl
  rw [e]
  unfold plc64 at hp ⊢
  refine ⟨?_, decide_eq_false ?_⟩
  · split at hp <;> split <;> (try split) <;> (try split) <;> (try split) <;> omega
  · split at hp <;> split <;> (try split) <;> (try split) <;> omega
theorem up_none {x : Nat} (hn : nan64 x = true) : upB x = x := by unfold upB; rw [if_pos hn]
theorem up_stay {x : Nat} (h : x < 18446744073709551616) (hn : nan64 x = false) : nan64 (upB x) = false := by
  by_cases c : plc64 x < 9218868437227405312
  · exact (plc_up h hn c).2
  · have h1 := hn
    rw [nan64_is h] at h1
    have h2 := of_decide_eq_false h1
    have hx : x = 9218868437227405312 := by unfold plc64 at c; split at c <;> omega
    subst hx
    decide
theorem not_nan {x : Nat} (h : x < 18446744073709551616) (hn : nan64 x = false) : ¬ (pt 52 11 1023 x).kind = 4 := by
  have hk := (kind64 x h).1
  rw [hn] at hk
  simp only [Bool.false_eq_true, if_false] at hk
  rw [hk]
  exact ne4 _ _ _
theorem even_facts {a : Nat} (ha : a < 18446744073709551616) (h3 : ¬ (pt 52 11 1023 a).kind = 3) (h4 : ¬ (pt 52 11 1023 a).kind = 4) : evenB a < 18446744073709551616 ∧ nan64 (evenB a) = false ∧ (9223372036854775808 ≤ evenB a ↔ 9223372036854775808 ≤ a) ∧ evenB a % 9223372036854775808 ≤ 9218868437227405312 := by
  have hna := num_le ha h4
  by_cases hX : 0 ≤ (pt 52 11 1023 a).exp
  · have hE : evenB a = a := by unfold evenB; rw [if_pos hX]
    rw [hE]
    refine ⟨ha, ?_, Iff.rfl, hna⟩
    rw [nan64_is ha]; exact decide_eq_false (by omega)
  · have hE : evenB a = (if (pt 52 11 1023 a).neg = true then 9223372036854775808 else 0) + nearB 52 11 1023 (rnd (pt 52 11 1023 a).mant (-(pt 52 11 1023 a).exp).toNat) 0 := by
      unfold evenB rndB
      rw [if_neg hX]
      dsimp only
      rw [if_neg h4, if_neg h3]
    obtain ⟨xm, -⟩ := pt_rng a
    have hrl := rnd_le (pt 52 11 1023 a).mant (-(pt 52 11 1023 a).exp).toNat
    have hdl := Nat.div_le_self (pt 52 11 1023 a).mant (2 ^ (-(pt 52 11 1023 a).exp).toNat)
    have hn := nearB_le lay64 (m := rnd (pt 52 11 1023 a).mant (-(pt 52 11 1023 a).exp).toNat) 0 (by omega)
    replace hn : nearB 52 11 1023 (rnd (pt 52 11 1023 a).mant (-(pt 52 11 1023 a).exp).toNat) 0 ≤ 9218868437227405312 := hn
    rw [neg_is ha] at hE
    generalize nearB 52 11 1023 (rnd (pt 52 11 1023 a).mant (-(pt 52 11 1023 a).exp).toNat) 0 = v at *
    have hlt : evenB a < 18446744073709551616 := by rw [hE]; split <;> omega
    have hmod : evenB a % 9223372036854775808 = v := by rw [hE]; split <;> omega
    refine ⟨hlt, ?_, ?_, by omega⟩
    · rw [nan64_is hlt, hmod]; exact decide_eq_false (by omega)
    · by_cases c : 9223372036854775808 ≤ a
      · rw [decide_eq_true c, if_pos rfl] at hE; omega
      · rw [decide_eq_false c, if_neg (by decide)] at hE; omega
theorem sub_self {a : Nat} (ha : a < 18446744073709551616) (h3 : ¬ (pt 52 11 1023 a).kind = 3) (h4 : ¬ (pt 52 11 1023 a).kind = 4) : FloatKind.f64.format.sub a a = some 0 := by
  have hr := read_fin2 ha h3 h4
  generalize (pt 52 11 1023 a).neg = s at hr
  generalize (pt 52 11 1023 a).mant = m at hr
  generalize (if (pt 52 11 1023 a).kind = 0 then (-1074 : Int) else (pt 52 11 1023 a).exp) = i at hr
  unfold Ieee.Format.sub
  rw [hr]
  have hz : Ieee.signed s m (i - min i i).toNat + Ieee.signed (!s) m (i - min i i).toNat = 0 := by
    rw [signed_is, signed_is]
    cases s <;> simp <;> omega
  simp only [Ieee.Datum.opposite, Ieee.Datum.sum, hz]
  cases s <;> rfl
theorem and_abs {b : Nat} (hb : b < 18446744073709551616) : bits .andNot .u64 (b : Int) 9223372036854775808 = ((b % 9223372036854775808 : Nat) : Int) := by
  have h := u64_andNot_nat b 9223372036854775808 hb (by decide)
  have h2 := andNot_bit b 63 (by decide) (by omega)
  rw [show (2 : Nat) ^ 63 = 9223372036854775808 from by decide] at h2
  rw [h2] at h
  exact h
theorem sign_w {b : Nat} (hb : b < 18446744073709551616) : decide (IntKind.i64.wrap (b : Int) < 0) = decide (9223372036854775808 ≤ b) := by
  rw [IntKind.wrap_i64]
  by_cases c : 9223372036854775808 ≤ b
  · rw [decide_eq_true c]; exact decide_eq_true (by omega)
  · rw [decide_eq_false c]; exact decide_eq_false (by omega)
theorem neq_is (a b : Int) : (some (compare a b) != some Ordering.eq) = decide (¬ a = b) := by
  have := eq_is a b
  rw [bne, this]
  by_cases c : a = b <;> simp [c]
theorem plc_pos {v : Nat} (h : v < 9223372036854775808) : plc64 v = v := by unfold plc64; rw [if_pos h]
theorem nan_pos {v : Nat} (h : v ≤ 9218868437227405312) : nan64 v = false := by
  rw [nan64_is (by omega)]; exact decide_eq_false (by omega)
theorem exp_3 (b : Nat) : (pt 52 11 1023 b).kind = 3 → (pt 52 11 1023 b).exp = 0 := by
  unfold pt
  repeat' split
  all_goals (dsimp only; intro h; omega)
set_option maxHeartbeats 1000000 in
theorem law_rises (a0 b0 : Nat) (w : World) (ha : a0 < 18446744073709551616) (hb : b0 < 18446744073709551616) : Calls Try.prog 5 #[.int .u64 (a0 : Int), .int .u64 (b0 : Int)] w fun e w' => e = .returned (.bool true) ∧ Below w.heap.size w w' := by
  have k21 := fun w => (up_any a0 w ha).mono fun e w' h => (show e = _ ∧ Below w.heap.size w w' from ⟨h.1, by rw [h.2]; exact Below.refl _ _⟩)
  refine ri_a a0 b0 w fun a w1 B1 h5 => ?_
  cases hna : nan64 a0
  case true => exact ri_n1 a0 b0 _ a w w1 B1 (by rw [nan_order, hna]) (by rw [nan_order, up_none hna, hna]) k21 h5
  have nx : (FloatKind.f64.format.order a0 a0 != some .eq) = false := by rw [nan_order, hna]
  have ex : (FloatKind.f64.format.order a0 a0 == some .eq) = true := by
    rw [order_is ha ha hna hna, eq_is]; exact decide_eq_true rfl
  cases hnb : nan64 b0
  case true => exact ri_n2 a0 b0 _ a w w1 B1 nx ex (by rw [nan_order, hnb]) (by rw [nan_order]; exact up_stay ha hna) k21 h5
  have h4 := not_nan ha hna
  have h4b := not_nan hb hnb
  have hnum := num_le ha h4
  have hab := plc_abs ha
  have oab := order_is ha hb hna hnb
  have oba := order_is hb ha hnb hna
  have hI : nan64 9218868437227405312 = false := by decide
  have hJ : nan64 18442240474082181120 = false := by decide
  have oi := order_is ha (show 9218868437227405312 < 18446744073709551616 by decide) hna hI
  have oj := order_is ha (show 18442240474082181120 < 18446744073709551616 by decide) hna hJ
  have pI : plc64 9218868437227405312 = 9218868437227405312 := by decide
  have pJ : plc64 18442240474082181120 = -9218868437227405312 := by decide
  rw [pI] at oi
  rw [pJ] at oj
  refine ri_b a0 b0 a w1 nx (by rw [nan_order, hnb]) (fun a w2 B2 h5 => ?_) h5
  have B12 := B1.trans (B2.mono B1.size)
  clear B1 B2
  -- what follows the third question
  have last : ∀ a w', Below w.heap.size w w' → At 129 [(5, .float .f64 a0), (6, .float .f64 b0), (7, .float .f64 9218868437227405312)] a → Code.wp Try.prog (sq 7 body5) (bodyPost Try.prog Try.f5 fun e w' => e = .returned (.bool true) ∧ Below w.heap.size w w') a w' := fun a w3 B3 h5 => by
    refine ri_e a0 b0 (evenB a0) a w3 (fun w => even_any a0 w ha) (fun a w4 B4 h5 => ?_) h5
    have B34 := B3.trans (B4.mono B3.size)
    by_cases h3 : (pt 52 11 1023 a0).kind = 3
    · have hE : evenB a0 = a0 := by unfold evenB; rw [if_pos (by rw [exp_3 a0 h3]; decide)]
      rw [hE] at h5
      have hi := (kind_inf ha h4).1 h3
      by_cases c : 9223372036854775808 ≤ a0
      · rw [if_pos c, hi] at hab
        exact ri_f2 a0 a0 a w w4 B34 (by rw [oi, eq_is, hab]; decide) (by rw [oj, eq_is, hab]; decide) ex h5
      · rw [if_neg c, hi] at hab
        exact ri_f1 a0 a0 a w w4 B34 (by rw [oi, eq_is, hab]; decide) ex h5
    have hi : ¬ a0 % 9223372036854775808 = 9218868437227405312 := fun q => h3 ((kind_inf ha h4).2 q)
    have p1 : ¬ plc64 a0 = 9218868437227405312 := by rw [hab]; split <;> omega
    have p2 : ¬ plc64 a0 = -9218868437227405312 := by rw [hab]; split <;> omega
    obtain ⟨e1, e2, e3, e4⟩ := even_facts ha h3 h4
    refine ri_f0 a0 (evenB a0) a w4 (by rw [oi, eq_is]; exact decide_eq_false p1) (by rw [oj, eq_is]; exact decide_eq_false p2) (fun a w5 B5 h5 => ?_) h5
    have B45 := B34.trans (B5.mono B34.size)
    have fin : ∀ a w', Below w.heap.size w w' → At 129 [(5, .float .f64 a0), (9, .float .f64 (evenB a0))] a → Code.wp Try.prog (sq 11 body5) (bodyPost Try.prog Try.f5 fun e w' => e = .returned (.bool true) ∧ Below w.heap.size w w') a w' := fun a w6 B6 h5 => by
      have k26 := fun w => sb_by (evenB a0) _ _ w rfl (sign_w e1)
      have k26b := fun w => sb_by a0 _ _ w rfl (sign_w ha)
      rw [show decide (9223372036854775808 ≤ evenB a0) = decide (9223372036854775808 ≤ a0) from by rw [Bool.eq_iff_iff, decide_eq_true_iff, decide_eq_true_iff]; exact e3] at k26
      exact ri_i a0 (evenB a0) _ a w w6 B6 k26 k26b h5
    have k17 := fun w => whole_any (evenB a0) w e1
    unfold wholeV at k17
    cases hw : wholeP (pt 52 11 1023 (evenB a0)) with
    | none =>
      rw [hw] at k17
      have hn := whole_none ha h3 h4 hw
      refine ri_g a0 (evenB a0) _ _ a w5 k17 (fun a w6 B6 h5 => ?_) h5
      have B56 := B45.trans (B6.mono B45.size)
      refine ri_h0 a0 (evenB a0) _ _ a w6 (fun w => abs_by (evenB a0) _ w (and_abs e1)) ?_ (fun a w7 B7 h5 => fin a w7 (B56.trans (B7.mono B56.size)) h5) h5
      rw [order_is (by omega) (by decide) (nan_pos e4) (by decide), lt_is, plc_pos (by omega), show plc64 4890691058569617664 = 4890691058569617664 from by decide]
      exact decide_eq_false (by omega)
    | some n =>
      rw [hw] at k17
      obtain ⟨v1, v2, v3⟩ := whole_back e1 hw
      refine ri_g a0 (evenB a0) _ _ a w5 k17 (fun a w6 B6 h5 => ?_) h5
      have B56 := B45.trans (B6.mono B45.size)
      obtain ⟨s, hs, s1, s2⟩ : ∃ s, FloatKind.f64.format.sub a0 (evenB a0) = some s ∧ s < 18446744073709551616 ∧ s % 9223372036854775808 ≤ 4602678819172646912 := by
        by_cases hX : (pt 52 11 1023 a0).exp < 0
        · exact sub_even ha h3 h4 hX
        · have hE : evenB a0 = a0 := by unfold evenB; rw [if_pos (by omega)]
          rw [hE]
          exact ⟨0, sub_self ha h3 h4, by decide, by decide⟩
      refine ri_h1 a0 (evenB a0) s _ n a w6 ?_ hs (fun w => abs_by s _ w (and_abs s1)) ?_ (fun a w7 B7 h5 => fin a w7 (B56.trans (B7.mono B56.size)) h5) h5
      · rw [order_is v1 e1 v2 e2, neq_is]
        exact decide_eq_false (fun q => q v3)
      · rw [order_is (by omega) (by decide) (nan_pos (by omega)) (by decide), gt_is, plc_pos (show 4602678819172646912 < 9223372036854775808 by decide), plc_pos (show s % 9223372036854775808 < 9223372036854775808 by omega)]
        exact decide_eq_false (by omega)
  -- the second question
  have mid : ∀ a w', Below w.heap.size w w' → At 129 [(5, .float .f64 a0), (6, .float .f64 b0), (7, .float .f64 9218868437227405312)] a → Code.wp Try.prog (sq 6 body5) (bodyPost Try.prog Try.f5 fun e w' => e = .returned (.bool true) ∧ Below w.heap.size w w') a w' := fun a w3 B3 h5 => by
    have k24 := fun w => narrow_any a0 w ha
    have k24b := fun w => narrow_any b0 w hb
    by_cases c : plc64 a0 ≤ plc64 b0
    · have hr := narrow_rise ha hb h4 h4b c
      by_cases c2 : plc64 a0 < plc64 b0
      · exact ri_d1 a0 b0 _ _ a w3 k24 k24b (by rw [oab, lt_is]; exact decide_eq_true c2) hr (fun a w4 B4 h5 => last a w4 (B3.trans (B4.mono B3.size)) h5) h5
      · exact ri_d2 a0 b0 _ _ a w3 k24 k24b (by rw [oab, lt_is]; exact decide_eq_false c2) (by rw [oab, eq_is]; exact decide_eq_true (by omega)) hr (fun a w4 B4 h5 => last a w4 (B3.trans (B4.mono B3.size)) h5) h5
    · exact ri_d0 a0 b0 a w3 (by rw [oab, lt_is]; exact decide_eq_false (by omega)) (by rw [oab, eq_is]; exact decide_eq_false (by omega)) (fun a w4 B4 h5 => last a w4 (B3.trans (B4.mono B3.size)) h5) h5
  by_cases c : plc64 a0 < 9218868437227405312
  · obtain ⟨u1, u2⟩ := plc_up ha hna c
    have ul := up_lt ha
    have hpl : -9218868437227405312 ≤ plc64 a0 := by rw [hab]; split <;> omega
    have f1 := plc_flip ul
    have f2 := nan_flip ul u2
    have fl := flip_lt ul
    obtain ⟨g1, g2⟩ := plc_up fl f2 (by omega)
    have gl := up_lt fl
    have d1 := plc_flip gl
    have d2 := nan_flip gl g2
    have dl := flip_lt gl
    have k23 := fun w => down_any (upB a0) w ul
    have oua := order_is ul ha u2 hna
    have oda := order_is dl ha d2 hna
    have obu := order_is hb ul hnb u2
    have x1 : (FloatKind.f64.format.order a0 9218868437227405312 == some .lt) = true := by rw [oi, lt_is]; exact decide_eq_true c
    have x2 : (FloatKind.f64.format.order (upB a0) a0 == some .lt) = false := by rw [oua, lt_is]; exact decide_eq_false (by omega)
    have x3 : (FloatKind.f64.format.order (upB a0) a0 == some .eq) = false := by rw [oua, eq_is]; exact decide_eq_false (by omega)
    have x4 : (FloatKind.f64.format.order (flipB (upB (flipB (upB a0)))) a0 != some .eq) = false := by rw [oda, neq_is]; exact decide_eq_false (by omega)
    by_cases c2 : plc64 a0 < plc64 b0
    · exact ri_c2 a0 b0 _ _ a w2 k21 k23 x1 x2 x3 x4 (by rw [oba, gt_is]; exact decide_eq_true c2) (by rw [obu, lt_is]; exact decide_eq_false (by omega)) (fun a w3 B3 h5 => mid a w3 (B12.trans (B3.mono B12.size)) h5) h5
    · exact ri_c1 a0 b0 _ _ a w2 k21 k23 x1 x2 x3 x4 (by rw [oba, gt_is]; exact decide_eq_false c2) (fun a w3 B3 h5 => mid a w3 (B12.trans (B3.mono B12.size)) h5) h5
  · exact ri_c0 a0 b0 _ a w2 k21 (by rw [oi, lt_is]; exact decide_eq_false c) (fun a w3 B3 h5 => mid a w3 (B12.trans (B3.mono B12.size)) h5) h5
end Go.Proofs.Ytjcjecbffnadaab
