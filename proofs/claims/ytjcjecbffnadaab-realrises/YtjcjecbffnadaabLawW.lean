/-
  The contract of Whole; what the statement of Even and Whole asks: it is true. Condition: the float's bits fit.
-/
import Derived.Test.YtjcjecbffnadaabRw
import Derived.Test.YtjcjecbffnadaabLawT
import Derived.Laws.FloatArith
namespace Go.Proofs.Ytjcjecbffnadaab
open Go.RowKit
set_option maxRecDepth 100000 in
set_option maxHeartbeats 2000000 in
theorem wh_1 (b E : Nat) (w : World) (h1 : (FloatKind.f64.format.order E b != some .eq) = true) (k19 : ∀ w, Calls Try.prog 19 #[.float .f64 b] w fun e w' => e = .returned (.float .f64 E) ∧ Below w.heap.size w w') : Calls Try.prog 17 #[.float .f64 b] w fun e w' => e = .returned (.tuple #[.int .i64 0, .bool false]) ∧ Below w.heap.size w w' := by
  go_enter Try.func17, Try.ntmps17
  go_wp2_with (go_at_call 19; refine (k19 _).mono ?_)
  intro e1 w1 hq
  first | (obtain ⟨rfl, b1⟩ : _ ∧ _ := hq) | (subst hq; intro b1)
  have B1 : Hid (Below w.heap.size w w1) := b1
  clear b1
  go_wp2
  go_ret2
  exact ⟨rfl, B1.out⟩
set_option maxRecDepth 100000 in
set_option maxHeartbeats 2000000 in
theorem wh_2 (b E : Nat) (w : World) (h1 : (FloatKind.f64.format.order E b != some .eq) = false) (h2 : (FloatKind.f64.format.order b 14114281232179134464 == some .lt) = true) (k19 : ∀ w, Calls Try.prog 19 #[.float .f64 b] w fun e w' => e = .returned (.float .f64 E) ∧ Below w.heap.size w w') : Calls Try.prog 17 #[.float .f64 b] w fun e w' => e = .returned (.tuple #[.int .i64 0, .bool false]) ∧ Below w.heap.size w w' := by
  go_enter Try.func17, Try.ntmps17
  go_wp2_with (go_at_call 19; refine (k19 _).mono ?_)
  intro e1 w1 hq
  first | (obtain ⟨rfl, b1⟩ : _ ∧ _ := hq) | (subst hq; intro b1)
  have B1 : Hid (Below w.heap.size w w1) := b1
  clear b1
  go_wp2
  go_ret2
  exact ⟨rfl, B1.out⟩
set_option maxRecDepth 100000 in
set_option maxHeartbeats 2000000 in
theorem wh_3 (b E : Nat) (w : World) (h1 : (FloatKind.f64.format.order E b != some .eq) = false) (h2 : (FloatKind.f64.format.order b 14114281232179134464 == some .lt) = false) (h3 : (FloatKind.f64.format.order b 4890909195324358656 == some .gt || FloatKind.f64.format.order b 4890909195324358656 == some .eq) = true) (k19 : ∀ w, Calls Try.prog 19 #[.float .f64 b] w fun e w' => e = .returned (.float .f64 E) ∧ Below w.heap.size w w') : Calls Try.prog 17 #[.float .f64 b] w fun e w' => e = .returned (.tuple #[.int .i64 0, .bool false]) ∧ Below w.heap.size w w' := by
  go_enter Try.func17, Try.ntmps17
  go_wp2_with (go_at_call 19; refine (k19 _).mono ?_)
  intro e1 w1 hq
  first | (obtain ⟨rfl, b1⟩ : _ ∧ _ := hq) | (subst hq; intro b1)
  have B1 : Hid (Below w.heap.size w w1) := b1
  clear b1
  go_wp2
  go_ret2
  exact ⟨rfl, B1.out⟩
set_option maxRecDepth 100000 in
set_option maxHeartbeats 2000000 in
theorem wh_4 (b E : Nat) (w : World) (n : Int) (h1 : (FloatKind.f64.format.order E b != some .eq) = false) (h2 : (FloatKind.f64.format.order b 14114281232179134464 == some .lt) = false) (h3 : (FloatKind.f64.format.order b 4890909195324358656 == some .gt || FloatKind.f64.format.order b 4890909195324358656 == some .eq) = false) (hc : ∀ w, (convert 24 2 (.float .f64 b)).run Try.prog w = .ok (.int .i64 n) w) (k19 : ∀ w, Calls Try.prog 19 #[.float .f64 b] w fun e w' => e = .returned (.float .f64 E) ∧ Below w.heap.size w w') : Calls Try.prog 17 #[.float .f64 b] w fun e w' => e = .returned (.tuple #[.int .i64 n, .bool true]) ∧ Below w.heap.size w w' := by
  go_enter Try.func17, Try.ntmps17
  go_wp2_with (go_at_call 19; refine (k19 _).mono ?_)
  intro e1 w1 hq
  first | (obtain ⟨rfl, b1⟩ : _ ∧ _ := hq) | (subst hq; intro b1)
  have B1 : Hid (Below w.heap.size w w1) := b1
  clear b1
  go_wp2
  go_ret2
  exact ⟨rfl, B1.out⟩
theorem rnd_div {M j : Nat} (h : M % 2 ^ j = 0) : rnd M j = M / 2 ^ j := by
  have hp := Nat.two_pow_pos j
  unfold rnd
  rw [h, if_neg (by omega)]
/-- What the bits say, by their size. -/
theorem pt_size {b : Nat} (_hb : b < 18446744073709551616) (h3 : ¬ (pt 52 11 1023 b).kind = 3) (h4 : ¬ (pt 52 11 1023 b).kind = 4) :
    ((pt 52 11 1023 b).kind = 0 ∧ b % 9223372036854775808 = 0 ∧ (pt 52 11 1023 b).mant = 0 ∧ (pt 52 11 1023 b).exp = 0) ∨
    ((pt 52 11 1023 b).kind = 1 ∧ b % 9223372036854775808 = (pt 52 11 1023 b).mant ∧ (pt 52 11 1023 b).mant < 4503599627370496 ∧ ¬ (pt 52 11 1023 b).mant = 0 ∧ (pt 52 11 1023 b).exp = -1074) ∨
    ((pt 52 11 1023 b).kind = 2 ∧ ∃ E : Nat, 1 ≤ E ∧ E ≤ 2046 ∧ (pt 52 11 1023 b).exp = (E : Int) - 1075 ∧ 4503599627370496 ≤ (pt 52 11 1023 b).mant ∧ (pt 52 11 1023 b).mant < 9007199254740992 ∧ b % 9223372036854775808 = (E - 1) * 4503599627370496 + (pt 52 11 1023 b).mant) := by
  have q1 : (2 : Nat) ^ 52 = 4503599627370496 := by decide
  have q2 : (2 : Nat) ^ 11 = 2048 := by decide
  revert h3 h4
  unfold pt
  rw [q1, q2]
  have hF := Nat.mod_lt b (show 4503599627370496 > 0 by decide)
  by_cases c1 : b / 4503599627370496 % 2048 = 2048 - 1
  · rw [if_pos c1]
    by_cases c2 : b % 4503599627370496 = 0
    · rw [if_pos c2]; intro h; exact absurd rfl h
    · rw [if_neg c2]; intro _ h; exact absurd rfl h
  · rw [if_neg c1]
    intro _ _
    by_cases c3 : b / 4503599627370496 % 2048 = 0
    · rw [if_pos c3]
      by_cases c2 : b % 4503599627370496 = 0
      · rw [if_pos c2]
        exact .inl ⟨rfl, by omega, rfl, rfl⟩
      · rw [if_neg c2]
        refine .inr (.inl ⟨rfl, ?_, hF, c2, rfl⟩)
        dsimp only
        omega
    · rw [if_neg c3]
      refine .inr (.inr ⟨rfl, b / 4503599627370496 % 2048, by omega, by omega, ?_, ?_, ?_, ?_⟩)
      all_goals (dsimp only; omega)
theorem plc_abs {b : Nat} (hb : b < 18446744073709551616) : plc64 b = if 9223372036854775808 ≤ b then -((b % 9223372036854775808 : Nat) : Int) else ((b % 9223372036854775808 : Nat) : Int) := by
  unfold plc64
  split <;> split <;> omega
theorem neg_is {b : Nat} (hb : b < 18446744073709551616) : (pt 52 11 1023 b).neg = decide (9223372036854775808 ≤ b) := (kind64 b hb).2
/-- A float that is read. -/
theorem read_fin2 {b : Nat} (hb : b < 18446744073709551616) (h3 : ¬ (pt 52 11 1023 b).kind = 3) (h4 : ¬ (pt 52 11 1023 b).kind = 4) :
    FloatKind.f64.format.read b = .number (pt 52 11 1023 b).neg (pt 52 11 1023 b).mant (if (pt 52 11 1023 b).kind = 0 then -1074 else (pt 52 11 1023 b).exp) := by
  have e1 : FloatKind.f64.format.signWeight = 9223372036854775808 := by decide
  have e2 : FloatKind.f64.format.binade = 4503599627370496 := by decide
  have e3 : FloatKind.f64.format.infRung = 9218868437227405312 := by decide
  have e4 : FloatKind.f64.format.leastPlace = -1074 := by decide
  have hn : (b / 9223372036854775808 % 2 == 1) = (pt 52 11 1023 b).neg := by
    rw [neg_is hb]
    rw [Bool.eq_iff_iff]
    simp
    omega
  unfold Ieee.Format.read
  simp only [e1, e2, e3, e4, hn]
  rcases pt_size hb h3 h4 with ⟨k, s, m, x⟩ | ⟨k, s, m1, m2, x⟩ | ⟨k, E, E1, E2, x, m1, m2, s⟩
  · rw [if_pos (by omega), s, m, k, if_pos rfl]
  · rw [if_pos (by omega), s, k, if_neg (by decide), x]
  · have hd : b % 9223372036854775808 / 4503599627370496 = E := by omega
    have hm : b % 9223372036854775808 % 4503599627370496 = (pt 52 11 1023 b).mant - 4503599627370496 := by omega
    have u1 : 4503599627370496 + ((pt 52 11 1023 b).mant - 4503599627370496) = (pt 52 11 1023 b).mant := by omega
    have u2 : (-1074 : Int) + ((E - 1 : Nat) : Int) = (E : Int) - 1075 := by omega
    rw [if_neg (by omega), if_pos (by omega), hd, hm, k, if_neg (by decide), x, u1, u2]
theorem cut_nil (neg : Bool) (n : Nat) : Ieee.Toward.cut .zero neg n 0 = n := by
  simp [Ieee.Toward.cut]
theorem cut_div (neg : Bool) {n j : Nat} (h0 : ¬ n = 0) (h : n % 2 ^ j = 0) : Ieee.Toward.cut .zero neg n j = n / 2 ^ j := by
  have hle : 2 ^ j ≤ n := Nat.le_of_dvd (by omega) (Nat.dvd_of_mod_eq_zero h)
  have hlog : j ≤ n.log2 := (Nat.le_log2 h0).2 hle
  simp only [Ieee.Toward.cut]
  rw [Nat.min_eq_left (by omega), Nat.shiftLeft_eq, Nat.one_mul]
  simp
theorem to_int {b : Nat} (hb : b < 18446744073709551616) {n : Int} (h : wholeP (pt 52 11 1023 b) = some n) : floatToIntVal .f64 b .i64 = some n := by
  have e0 : ¬ (pt 52 11 1023 b).kind = 3 := by
    intro h3; unfold wholeP at h; rw [if_neg (by omega), if_pos (.inl h3)] at h; cases h
  have e1 : ¬ (pt 52 11 1023 b).kind = 4 := by
    intro h4; unfold wholeP at h; rw [if_neg (by omega), if_pos (.inr h4)] at h; cases h
  have hr := read_fin2 hb e0 e1
  have hM53 : (pt 52 11 1023 b).mant < 9007199254740992 := by
    rcases pt_size hb e0 e1 with h | h | ⟨_, E, h⟩ <;> omega
  have hMz : (pt 52 11 1023 b).kind = 0 ↔ (pt 52 11 1023 b).mant = 0 := by
    rcases pt_size hb e0 e1 with h | h | ⟨_, E, h⟩ <;> omega
  unfold floatToIntVal
  have hdec : FloatKind.f64.decode b = FloatKind.f64.format.read b := rfl
  rw [hdec, hr]
  generalize pt 52 11 1023 b = y at *
  obtain ⟨kd, ng, M, X, qu, LD⟩ := y
  unfold wholeP at h
  dsimp only at *
  have hmn : IntKind.i64.min = -9223372036854775808 := by decide
  have hmx : IntKind.i64.max = 9223372036854775807 := by decide
  have key : ∀ m : Nat, ∀ i : Int, (Ieee.Datum.number ng M i).toInt .zero = some (if ng = true then -((Ieee.Toward.cut .zero ng (M <<< i.toNat) (-i).toNat <<< 0 : Nat) : Int) else ((Ieee.Toward.cut .zero ng (M <<< i.toNat) (-i).toNat <<< 0 : Nat) : Int)) := fun _ _ => rfl
  rw [key 0]
  by_cases k0 : kd = 0
  · rw [if_pos k0] at h
    cases h
    rw [if_pos k0]
    have hM : M = 0 := hMz.1 k0
    subst hM
    have hz : Ieee.Toward.cut .zero ng (0 <<< (-1074 : Int).toNat) (-(-1074 : Int)).toNat = 0 := by
      simp [Ieee.Toward.cut]
    rw [hz]
    simp [hmn, hmx]
  rw [if_neg k0] at h ⊢
  rw [if_neg (by omega)] at h
  by_cases c1 : X = 11 ∧ ng = true ∧ M = 4503599627370496
  · obtain ⟨rfl, rfl, rfl⟩ := c1
    rw [if_pos ⟨rfl, rfl, rfl⟩] at h
    cases h
    decide
  rw [if_neg c1] at h
  by_cases c2 : 10 < X
  · rw [if_pos c2] at h; cases h
  rw [if_neg c2] at h
  by_cases c3 : M % 2 ^ (-X).toNat = 0
  · rw [if_pos c3] at h
    have hv : Ieee.Toward.cut .zero ng (M <<< X.toNat) (-X).toNat = M / 2 ^ (-X).toNat * 2 ^ X.toNat := by
      by_cases cx : 0 ≤ X
      · have e : (-X).toNat = 0 := by omega
        rw [e, cut_nil, Nat.shiftLeft_eq, Nat.pow_zero, Nat.div_one]
      · have e : X.toNat = 0 := by omega
        rw [e, Nat.shiftLeft_zero, cut_div ng (by omega) c3, Nat.pow_zero, Nat.mul_one]
    rw [hv, Nat.shiftLeft_zero]
    have hlt : M / 2 ^ (-X).toNat * 2 ^ X.toNat < 9223372036854775808 := by
      have h1 := Nat.div_le_self M (2 ^ (-X).toNat)
      have h2 : 2 ^ X.toNat ≤ 2 ^ 10 := Nat.pow_le_pow_right (by omega) (by omega)
      have h3 : M / 2 ^ (-X).toNat * 2 ^ X.toNat ≤ M * 2 ^ 10 := Nat.mul_le_mul h1 h2
      omega
    generalize M / 2 ^ (-X).toNat * 2 ^ X.toNat = r at *
    cases h
    simp only [hmn, hmx]
    rw [if_pos]
    cases ng <;> simp <;> omega
  · rw [if_neg c3] at h; cases h
theorem even_eq {b : Nat} (hb : b < 18446744073709551616) (h3 : ¬ (pt 52 11 1023 b).kind = 3) (h4 : ¬ (pt 52 11 1023 b).kind = 4) (hX : (pt 52 11 1023 b).exp < 0) (hd : (pt 52 11 1023 b).mant % 2 ^ (-(pt 52 11 1023 b).exp).toNat = 0) : evenB b = b := by
  have hbk := bits_back b hb h3 h4
  have hsm := (pt_small lay64 b).1
  have hMz : ¬ (pt 52 11 1023 b).mant = 0 := by
    rcases pt_size hb h3 h4 with h | h | ⟨_, E, h⟩ <;> omega
  unfold evenB
  rw [if_neg (by omega), rnd_div hd]
  refine Eq.trans ?_ hbk
  generalize pt 52 11 1023 b = y at *
  obtain ⟨kd, ng, M, X, qu, LD⟩ := y
  unfold rndB
  dsimp only at *
  rw [if_neg h4, if_neg h3, if_neg h4, if_neg h3]
  obtain ⟨j, hj⟩ : ∃ j : Nat, -X = j := ⟨_, (Int.toNat_of_nonneg (by omega)).symm⟩
  rw [hj, Int.toNat_natCast] at hd ⊢
  have hm : M = M / 2 ^ j * 2 ^ j := by
    have := Nat.div_add_mod M (2 ^ j)
    rw [hd, Nat.mul_comm] at this
    omega
  have hne : ¬ M / 2 ^ j = 0 := fun h => by rw [h, Nat.zero_mul] at hm; omega
  have hsc := nearB_scale 52 11 1023 (M / 2 ^ j) j 0 hne (by rw [← hm]; omega)
  rw [← hm, show (0 : Int) - j = X by omega] at hsc
  rw [hsc]
theorem even_ne {b : Nat} (hb : b < 18446744073709551616) (h3 : ¬ (pt 52 11 1023 b).kind = 3) (h4 : ¬ (pt 52 11 1023 b).kind = 4) (hX : (pt 52 11 1023 b).exp < 0) (hd : ¬ (pt 52 11 1023 b).mant % 2 ^ (-(pt 52 11 1023 b).exp).toNat = 0) : (FloatKind.f64.format.order (evenB b) b != some .eq) = true := by
  have hM53 : (pt 52 11 1023 b).mant < 9007199254740992 := by
    rcases pt_size hb h3 h4 with h | h | ⟨_, E, h⟩ <;> omega
  have hbz : ¬ b % 9223372036854775808 = 0 := by
    rcases pt_size hb h3 h4 with h | h | ⟨_, E, h⟩ <;> omega
  have hng := neg_is hb
  have hab := plc_abs hb
  have hnb : nan64 b = false := by
    cases hn : nan64 b
    · rfl
    · have := (kind64 b hb).1
      rw [hn, if_pos rfl] at this
      exact absurd this h4
  have hE : evenB b = (if (pt 52 11 1023 b).neg = true then 9223372036854775808 else 0) + nearB 52 11 1023 (rnd (pt 52 11 1023 b).mant (-(pt 52 11 1023 b).exp).toNat) 0 := by
    unfold evenB rndB
    rw [if_neg (by omega)]
    dsimp only
    rw [if_neg h4, if_neg h3]
  obtain ⟨j, hj⟩ : ∃ j : Nat, -(pt 52 11 1023 b).exp = ((j + 1 : Nat) : Int) := ⟨(-(pt 52 11 1023 b).exp - 1).toNat, by omega⟩
  rw [hj, Int.toNat_natCast] at hE hd
  have hrl := rnd_le (pt 52 11 1023 b).mant (j + 1)
  have hdl : (pt 52 11 1023 b).mant / 2 ^ (j + 1) ≤ (pt 52 11 1023 b).mant / 2 := by
    refine Nat.div_le_div_left ?_ (by omega)
    rw [Nat.pow_succ]
    have := Nat.two_pow_pos j
    omega
  have hr52 : rnd (pt 52 11 1023 b).mant (j + 1) ≤ 4503599627370496 := by omega
  by_cases z : rnd (pt 52 11 1023 b).mant (j + 1) = 0
  · rw [z, nearB_nought, Nat.add_zero] at hE
    have hp : plc64 (evenB b) = 0 := by
      rw [hE]; cases (pt 52 11 1023 b).neg <;> decide
    have hnE : nan64 (evenB b) = false := by
      rw [hE]; cases (pt 52 11 1023 b).neg <;> decide
    have hlt : evenB b < 18446744073709551616 := by rw [hE]; split <;> decide
    have h0 : ¬ plc64 b = 0 := by
      rw [hab]
      split <;> omega
    rw [order_is hlt hb hnE hnb, hp]
    have := eq_is 0 (plc64 b)
    rw [decide_eq_false (fun h => h0 h.symm)] at this
    simpa using this
  · obtain ⟨l, l1, l2⟩ := log_of z
    have hl : l ≤ 52 := by
      refine Classical.byContradiction fun h => ?_
      have : 2 ^ 53 ≤ 2 ^ l := Nat.pow_le_pow_right (by omega) (by omega)
      omega
    have hp := Nat.two_pow_pos (52 - l)
    have a1 : 2 ^ l * 2 ^ (52 - l) = 4503599627370496 := by rw [← Nat.pow_add, show l + (52 - l) = 52 by omega]
    have a2 : 2 ^ (l + 1) * 2 ^ (52 - l) = 9007199254740992 := by rw [← Nat.pow_add, show l + 1 + (52 - l) = 53 by omega]
    have b1 : 4503599627370496 ≤ rnd (pt 52 11 1023 b).mant (j + 1) * 2 ^ (52 - l) := by rw [← a1]; exact Nat.mul_le_mul_right _ l1
    have b2 : rnd (pt 52 11 1023 b).mant (j + 1) * 2 ^ (52 - l) < 9007199254740992 := by rw [← a2]; exact Nat.mul_lt_mul_of_pos_right l2 hp
    have hsc := nearB_scale 52 11 1023 _ (52 - l) 0 z (by omega)
    have hfu := near_full b1 b2 (e := 0 - ((52 - l : Nat) : Int)) (by omega) (by omega)
    have hpf := pt_full (pt 52 11 1023 b).neg b1 b2 (e := 0 - ((52 - l : Nat) : Int)) (by omega) (by omega)
    rw [← hsc, hfu] at hE
    rw [← hE] at hpf
    have hlt : evenB b < 18446744073709551616 := by
      rw [hE]; split <;> omega
    have hkE := kind64 (evenB b) hlt
    have hnE : nan64 (evenB b) = false := by
      cases hn : nan64 (evenB b)
      · rfl
      · have h := hkE.1
        rw [hn, if_pos rfl, hpf] at h
        exact absurd h (show ¬ (2 : Int) = 4 by decide)
    have hne : ¬ plc64 (evenB b) = plc64 b := fun h => by
      rw [hab, plc_abs hlt] at h
      have hg := hkE.2
      rw [hpf, hng] at hg
      have hg2 : (9223372036854775808 ≤ b) ↔ (9223372036854775808 ≤ evenB b) := by
        have := Bool.eq_iff_iff.1 hg
        simpa using this
      have hbe : evenB b = b := by
        by_cases c : 9223372036854775808 ≤ b
        · rw [if_pos c, if_pos (hg2.1 c)] at h
          have := hg2.1 c
          omega
        · rw [if_neg c, if_neg (fun q => c (hg2.2 q))] at h
          have : ¬ 9223372036854775808 ≤ evenB b := fun q => c (hg2.2 q)
          omega
      rw [hbe] at hpf
      have hX2 : (pt 52 11 1023 b).exp = 0 - ((52 - l : Nat) : Int) := by rw [hpf]
      have hM2 : (pt 52 11 1023 b).mant = rnd (pt 52 11 1023 b).mant (j + 1) * 2 ^ (52 - l) := by
        have := congrArg Pt.mant hpf
        exact this
      have hjl : j + 1 = 52 - l := by omega
      rw [hjl] at hd hM2
      exact hd (by rw [hM2]; exact Nat.mul_mod_left _ _)
    rw [order_is hlt hb hnE hnb]
    have := eq_is (plc64 (evenB b)) (plc64 b)
    rw [decide_eq_false hne] at this
    simpa using this
set_option maxHeartbeats 1000000 in
theorem whole_any (b : Nat) (w : World) (hb : b < 18446744073709551616) : Calls Try.prog 17 #[.float .f64 b] w fun e w' => e = .returned (wholeV (wholeP (pt 52 11 1023 b))) ∧ Below w.heap.size w w' := by
  have k19 := fun w => even_any b w hb
  have hk := (kind64 b hb).1
  have hng := neg_is hb
  have hab := plc_abs hb
  have h34 : (pt 52 11 1023 b).kind = 3 ∨ (pt 52 11 1023 b).kind = 4 → (pt 52 11 1023 b).exp = 0 := by
    unfold pt
    repeat' split
    all_goals (dsimp only; intro h; omega)
  by_cases h4 : (pt 52 11 1023 b).kind = 4
  · have hE : evenB b = b := by unfold evenB; rw [if_pos (by rw [h34 (.inr h4)]; decide)]
    rw [hE] at k19
    have hn : nan64 b = true := by
      cases hn : nan64 b
      · rw [hn] at hk
        simp only [Bool.false_eq_true, if_false] at hk
        rw [hk] at h4
        exact absurd h4 (ne4 _ _ _)
      · rfl
    have e : wholeP (pt 52 11 1023 b) = none := by unfold wholeP; rw [if_neg (by omega), if_pos (.inr h4)]
    rw [e]
    exact wh_1 b b w (by rw [nan_order]; exact hn) k19
  have hn : nan64 b = false := by
    cases hn : nan64 b
    · rfl
    · rw [hn, if_pos rfl] at hk
      exact absurd hk h4
  have o2 : (FloatKind.f64.format.order b 14114281232179134464 == some .lt) = decide (plc64 b < -4890909195324358656) := by
    rw [order_is hb (by decide) hn (by decide), lt_is]
    rfl
  have o3 : (FloatKind.f64.format.order b 4890909195324358656 == some .gt || FloatKind.f64.format.order b 4890909195324358656 == some .eq) = decide (4890909195324358656 ≤ plc64 b) := by
    rw [order_is hb (by decide) hn (by decide), gt_is, eq_is]
    have : plc64 4890909195324358656 = 4890909195324358656 := by decide
    rw [this, Bool.eq_iff_iff, Bool.or_eq_true, decide_eq_true_iff, decide_eq_true_iff, decide_eq_true_iff]
    omega
  have hself : (FloatKind.f64.format.order b b != some .eq) = false := by rw [nan_order]; exact hn
  by_cases h3 : (pt 52 11 1023 b).kind = 3
  · have hE : evenB b = b := by unfold evenB; rw [if_pos (by rw [h34 (.inl h3)]; decide)]
    rw [hE] at k19
    have e : wholeP (pt 52 11 1023 b) = none := by unfold wholeP; rw [if_neg (by omega), if_pos (.inl h3)]
    have hi := inf_back b hb h3
    rw [e]
    rw [hng] at hi
    by_cases c : 9223372036854775808 ≤ b
    · rw [if_pos c] at hab
      rw [if_pos (by simpa using c)] at hi
      exact wh_2 b b w hself (by rw [o2]; exact decide_eq_true (by omega)) k19
    · rw [if_neg c] at hab
      rw [if_neg (by simpa using c)] at hi
      exact wh_3 b b w hself (by rw [o2]; exact decide_eq_false (by omega)) (by rw [o3]; exact decide_eq_true (by omega)) k19
  have hs := pt_size hb h3 h4
  have hev : evenB b = b ∨ ((pt 52 11 1023 b).exp < 0 ∧ ¬ (pt 52 11 1023 b).mant % 2 ^ (-(pt 52 11 1023 b).exp).toNat = 0) := by
    by_cases cx : 0 ≤ (pt 52 11 1023 b).exp
    · left; unfold evenB; rw [if_pos cx]
    · by_cases cd : (pt 52 11 1023 b).mant % 2 ^ (-(pt 52 11 1023 b).exp).toNat = 0
      · left; exact even_eq hb h3 h4 (by omega) cd
      · right; exact ⟨by omega, cd⟩
  rcases hev with hE | ⟨cx, cd⟩
  · rw [hE] at k19
    cases hv : wholeP (pt 52 11 1023 b) with
    | none =>
      have hbig : (10 < (pt 52 11 1023 b).exp) ∧ ¬ ((pt 52 11 1023 b).exp = 11 ∧ (pt 52 11 1023 b).neg = true ∧ (pt 52 11 1023 b).mant = 4503599627370496) := by
        unfold wholeP at hv
        by_cases k0 : (pt 52 11 1023 b).kind = 0
        · rw [if_pos k0] at hv; cases hv
        rw [if_neg k0, if_neg (by omega)] at hv
        by_cases c1 : (pt 52 11 1023 b).exp = 11 ∧ (pt 52 11 1023 b).neg = true ∧ (pt 52 11 1023 b).mant = 4503599627370496
        · rw [if_pos c1] at hv; cases hv
        rw [if_neg c1] at hv
        by_cases c2 : 10 < (pt 52 11 1023 b).exp
        · exact ⟨c2, c1⟩
        rw [if_neg c2] at hv
        exfalso
        by_cases c3 : (pt 52 11 1023 b).mant % 2 ^ (-(pt 52 11 1023 b).exp).toNat = 0
        · rw [if_pos c3] at hv; cases hv
        · by_cases cx : 0 ≤ (pt 52 11 1023 b).exp
          · have e : (-(pt 52 11 1023 b).exp).toNat = 0 := by omega
            rw [e, Nat.pow_zero, Nat.mod_one] at c3
            exact c3 rfl
          · have := even_ne hb h3 h4 (by omega) c3
            rw [hE, hself] at this
            cases this
      obtain ⟨g1, g2⟩ := hbig
      have ha : 4890909195324358656 ≤ b % 9223372036854775808 := by
        rcases hs with h | h | ⟨_, E, h⟩
        · omega
        · omega
        · omega
      by_cases c : 9223372036854775808 ≤ b
      · rw [if_pos c] at hab
        have hn1 : (pt 52 11 1023 b).neg = true := by rw [hng]; simpa using c
        have ha2 : 4890909195324358656 < b % 9223372036854775808 := by
          rcases hs with h | h | ⟨_, E, h⟩
          · omega
          · omega
          · by_cases q : (pt 52 11 1023 b).exp = 11
            · have : ¬ (pt 52 11 1023 b).mant = 4503599627370496 := fun h => g2 ⟨q, hn1, h⟩
              omega
            · omega
        exact wh_2 b b w hself (by rw [o2]; exact decide_eq_true (by omega)) k19
      · rw [if_neg c] at hab
        exact wh_3 b b w hself (by rw [o2]; exact decide_eq_false (by omega)) (by rw [o3]; exact decide_eq_true (by omega)) k19
    | some n =>
      have hti := to_int hb hv
      have hsmall : ((pt 52 11 1023 b).exp = 11 ∧ (pt 52 11 1023 b).neg = true ∧ (pt 52 11 1023 b).mant = 4503599627370496) ∨ ¬ 10 < (pt 52 11 1023 b).exp := by
        unfold wholeP at hv
        by_cases k0 : (pt 52 11 1023 b).kind = 0
        · omega
        rw [if_neg k0, if_neg (by omega)] at hv
        by_cases c1 : (pt 52 11 1023 b).exp = 11 ∧ (pt 52 11 1023 b).neg = true ∧ (pt 52 11 1023 b).mant = 4503599627370496
        · exact .inl c1
        rw [if_neg c1] at hv
        by_cases c2 : 10 < (pt 52 11 1023 b).exp
        · rw [if_pos c2] at hv; cases hv
        · exact .inr c2
      have hneg2 : (pt 52 11 1023 b).neg = true → 9223372036854775808 ≤ b := fun h => by rw [hng] at h; simpa using h
      have ha : b % 9223372036854775808 < 4890909195324358656 ∨ (b % 9223372036854775808 = 4890909195324358656 ∧ 9223372036854775808 ≤ b) := by
        rcases hs with h | h | ⟨_, E, h⟩
        · omega
        · omega
        · rcases hsmall with q | q
          · right; exact ⟨by omega, hneg2 q.2.1⟩
          · left; omega
      refine wh_4 b b w n hself (by rw [o2, hab]; refine decide_eq_false ?_; split <;> omega) (by rw [o3, hab]; refine decide_eq_false ?_; split <;> omega) (fun w => run_convert_float_int w 24 2 .f64 .i64 b n (by rw [Try.underlying24]; rfl) Try.underlying2 hti) k19
  · have e : wholeP (pt 52 11 1023 b) = none := by
      unfold wholeP
      have k0 : ¬ (pt 52 11 1023 b).kind = 0 := fun h => by omega
      rw [if_neg k0, if_neg (by omega), if_neg (by omega), if_neg (by omega), if_neg cd]
    rw [e]
    exact wh_1 b _ w (even_ne hb h3 h4 cx cd) k19
set_option maxRecDepth 100000 in
set_option maxHeartbeats 2000000 in
theorem law_w_by (b E : Nat) (n : Int) (ok : Bool) (w : World) (k17 : ∀ w, Calls Try.prog 17 #[.float .f64 b] w fun e w' => e = .returned (.tuple #[.int .i64 n, .bool ok]) ∧ Below w.heap.size w w') (k18 : ∀ w, Calls Try.prog 18 #[.int .u64 (b : Int)] w fun e w' => e = .returned (.tuple #[.int .i64 n, .bool ok]) ∧ Below w.heap.size w w') (k19 : ∀ w, Calls Try.prog 19 #[.float .f64 b] w fun e w' => e = .returned (.float .f64 E) ∧ Below w.heap.size w w') (k20 : ∀ w, Calls Try.prog 20 #[.int .u64 (b : Int)] w fun e w' => e = .returned (.int .u64 (E : Int)) ∧ Below w.heap.size w w') (k14 : ∀ w, Calls Try.prog 14 #[.float .f64 E, .int .u64 (E : Int)] w fun e w' => e = .returned (.bool true) ∧ Below w.heap.size w w') :
    Calls Try.prog 4 #[.int .u64 (b : Int)] w fun e w' => e = .returned (.bool true) ∧ Below w.heap.size w w' := by
  have k9 := awake_any
  have x10 := ext10
  go_enter Try.func4, Try.ntmps4
  go_wp2_with (go_at_call 9; refine (k9 _).mono ?_)
  intro e1 w1 hq
  first | (obtain ⟨rfl, b1⟩ : _ ∧ _ := hq) | (subst hq; intro b1)
  go_wp2_with (go_at_call 17; refine (k17 _).mono ?_)
  intro e2 w2 hq
  first | (obtain ⟨rfl, b2⟩ : _ ∧ _ := hq) | (subst hq; intro b2)
  go_wp2_with (go_at_call 18; refine (k18 _).mono ?_)
  intro e3 w3 hq
  first | (obtain ⟨rfl, b3⟩ : _ ∧ _ := hq) | (subst hq; intro b3)
  go_wp2_with (go_at_call 19; refine (k19 _).mono ?_)
  intro e4 w4 hq
  first | (obtain ⟨rfl, b4⟩ : _ ∧ _ := hq) | (subst hq; intro b4)
  go_wp2_with (go_at_call 20; refine (k20 _).mono ?_)
  intro e5 w5 hq
  first | (obtain ⟨rfl, b5⟩ : _ ∧ _ := hq) | (subst hq; intro b5)
  go_wp2_with (go_at_call 14; refine (k14 _).mono ?_)
  intro e6 w6 hq
  first | (obtain ⟨rfl, b6⟩ : _ ∧ _ := hq) | (subst hq; intro b6)
  have B3 := (b1.trans (b2.mono b1.size)).trans (b3.mono (Nat.le_trans b1.size b2.size))
  have B5 := (B3.trans (b4.mono B3.size)).trans (b5.mono (Nat.le_trans B3.size b4.size))
  have B1 : Hid (Below w.heap.size w w6) := B5.trans (b6.mono B5.size)
  clear b1 b2 b3 b4 b5 b6 B3 B5
  go_wp2
  go_ret
  exact ⟨by simp, B1.out⟩
theorem law_w (b : Nat) (w : World) (hb : b < 18446744073709551616) : Calls Try.prog 4 #[.int .u64 (b : Int)] w fun e w' => e = .returned (.bool true) ∧ Below w.heap.size w w' := by
  have hlt : evenB b < 18446744073709551616 := by
    unfold evenB
    split
    · exact hb
    · rename_i c
      obtain ⟨s, hs⟩ : ∃ s : Nat, -(pt 52 11 1023 b).exp = ((s + 1 : Nat) : Int) := ⟨(-(pt 52 11 1023 b).exp - 1).toNat, by omega⟩
      exact rndB_lt lay64 _ (by show rnd _ _ < _; rw [hs, Int.toNat_natCast]; exact rnd_small s (pt_small lay64 b).1)
  exact law_w_by b _ _ _ w (fun w => whole_any b w hb) (fun w => rwhole_any b w hb) (fun w => even_any b w hb) (fun w => reven_any b w hb) (fun w => is_same _ hlt w)
end Go.Proofs.Ytjcjecbffnadaab
