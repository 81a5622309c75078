/-
  The document's parts.
-/
import Derived.Test.YtahmeejcgddlhabSa
import Derived.Test.YtahmeejcgddlhabQm
import Derived.Test.YtahmeejcgddlhabPo
import Derived.Test.YtahmeejcgddlhabPb
import Derived.Deep.DeepMust
namespace Go.Proofs.Ytahmeejcgddlhab
open Go.RowKit
set_option maxRecDepth 100000 in
theorem rdigitBy_any (b c : Int) (w : World) (h0 : 0 ≤ c) (h1 : c < 256) : Calls Try.prog 19 #[.int .u8 c, .int .i64 b] w fun e w' => e = .returned (.int .i64 (dgTo b c)) ∧ w' = w := by
  have k := fun w => rdigit_any c w h0 h1
  unfold dgTo
  generalize dg c = D at *
  by_cases d : D < b
  · have d2 : decide (b ≤ D) = false := by simp; omega
    rw [if_pos d]
    go_enter Try.func19, Try.ntmps19
    go_wp2_with (go_at_call 28; refine (k _).mono ?_; rintro e w' ⟨rfl, hw⟩; rw [hw]; clear hw)
    go_ret
    exact ⟨rfl, rfl⟩
  · have d2 : decide (b ≤ D) = true := by simp; omega
    rw [if_neg d]
    go_enter Try.func19, Try.ntmps19
    go_wp2_with (go_at_call 28; refine (k _).mono ?_; rintro e w' ⟨rfl, hw⟩; rw [hw]; clear hw)
    go_ret
    exact ⟨rfl, rfl⟩
set_option maxRecDepth 100000 in
theorem rbasic_any (p : Bt) (c : Int) (w : World) (h0 : 0 ≤ c) (h1 : c ≤ 1114111) : Calls Try.prog 22 #[.agg (bv p), .int .i32 c] w fun e w' => e = .returned (.bool (isB p c)) ∧ Below w.heap.size w w' := by
  unfold bv isB
  have B0 := fun o => (Below.refl w.heap.size w).alloc (Nat.le_refl _) o
  have zw : IntKind.i64.wrap c = c := IntWalk.i64_in _ ⟨by omega, by omega⟩
  by_cases h1 : c < p.first
  · by_cases h2 : c < 128
    · go_enter Try.func22, Try.ntmps22
      go_wp2
      go_ret
      exact ⟨by simp [h1, h2], B0 _⟩
    · go_enter Try.func22, Try.ntmps22
      go_wp2
      go_ret
      exact ⟨by simp [h2], B0 _⟩
  · go_enter Try.func22, Try.ntmps22
    go_wp2
    go_ret
    exact ⟨by simp; omega, B0 _⟩
set_option maxRecDepth 100000 in
theorem rthrBy_any (p : Bt) (k b : Int) (w : World) (hl : p.least ≤ p.most) (hk : 0 ≤ k) (hk2 : k ≤ 9007199254740992) (hb : 0 ≤ b) (hb2 : b ≤ 1000000000000) : Calls Try.prog 23 #[.agg (bv p), .int .i64 k, .int .i64 b] w fun e w' => e = .returned (.int .i64 (thr p k b)) ∧ Below w.heap.size w w' := by
  unfold bv thr
  have B0 := fun o => (Below.refl w.heap.size w).alloc (Nat.le_refl _) o
  obtain ⟨X, hX⟩ : ∃ X, k - b = X := ⟨_, rfl⟩
  have xw : wrap64 X = X := by unfold wrap64; omega
  rw [hX]
  by_cases h1 : X < p.least
  · have e1 : decide (X < p.least) = true := decide_eq_true h1
    have e : min (max X p.least) p.most = p.least := by omega
    rw [e]
    go_enter Try.func23, Try.ntmps23
    go_wp2
    go_ret
    exact ⟨rfl, B0 _⟩
  · have e1 : decide (X < p.least) = false := decide_eq_false h1
    by_cases h2 : p.most < X
    · have e2 : decide (p.most < X) = true := decide_eq_true h2
      have e : min (max X p.least) p.most = p.most := by omega
      rw [e]
      clear h1 h2
      go_enter Try.func23, Try.ntmps23
      go_wp2
      go_ret
      exact ⟨rfl, B0 _⟩
    · have e2 : decide (p.most < X) = false := decide_eq_false h2
      have e : min (max X p.least) p.most = X := by omega
      rw [e]
      clear h1 h2
      go_enter Try.func23, Try.ntmps23
      go_wp2
      go_ret
      exact ⟨rfl, B0 _⟩
set_option maxRecDepth 100000 in
set_option maxHeartbeats 2000000 in
theorem radaptBy_any (p : Bt) (delta points : Int) (first : Bool) (w : World) (hp : Okb p) (h0 : 0 ≤ delta) (h1 : delta ≤ 4294967296) (h2 : 1 ≤ points) (h3 : points ≤ 10000000000000) : Calls Try.prog 25 #[.agg (bv p), .int .i64 delta, .int .i64 points, .bool first] w fun e w' => e = .returned (.int .i64 (adF p delta points first)) ∧ Below w.heap.size w w' := by
  have Hb := ad0_bound (D := p.damp) first (by have := hp.d1; omega) h0 h1 h2
  have HB : Hid (Below w.heap.size w (w.alloc (.cells (bv p) 29))) := (Below.refl w.heap.size w).alloc (Nat.le_refl _) _
  unfold bv at HB ⊢
  obtain ⟨b1, b2, l1, l2, m1, m2, s1, s2, d1, d2, -, -, -, -, -, -⟩ := hp
  obtain ⟨base, least, most, skew, damp, bias, fst, btw⟩ := p
  simp only at b1 b2 l1 l2 m1 m2 s1 s2 d1 d2 Hb HB ⊢
  have hw1 : 2 ≤ base - least := by omega
  have hw2 : base - least ≤ 36 := by omega
  have hlim : 0 ≤ ((base - least) * most).tdiv 2 := Int.tdiv_nonneg (Int.mul_nonneg (by omega) (by omega)) (by omega)
  have hml : 0 ≤ (base - least) * most := Int.mul_nonneg (by omega) (by omega)
  have hml2 : (base - least) * most ≤ 36 * 36 := Int.mul_le_mul (by omega) (by omega) (by omega) (by omega)
  have hm2 : most ≤ 36 := by omega
  have e1 := tdiv_le h0 (show 0 ≤ damp by omega)
  have e2 := tdiv_le h0 (show (0 : Int) ≤ 2 by omega)
  have hd0 : (damp == 0) = false := by simp; omega
  have hp0 : (points == 0) = false := by simp; omega
  unfold adF
  obtain ⟨X, hX⟩ : ∃ X, ad0 damp delta points first = X := ⟨_, rfl⟩
  simp only [hX] at Hb ⊢
  have hX' : Hid (ad0 damp delta points first = X) := hX
  clear hX
  obtain ⟨R, HR⟩ : ∃ R, Hid (adR (base - least) (((base - least) * most).tdiv 2) base 64 X 0 = R) := ⟨_, rfl⟩
  rw [HR.out]
  generalize hW : base - least = W at *
  generalize hML : W * most = ML at *
  generalize hLM : ML.tdiv 2 = lim at *
  obtain ⟨X0, X1⟩ := Hb
  have hlim2 : lim ≤ 1296 := by have := tdiv_le hml (show (0 : Int) ≤ 2 by omega); omega
  have hW0 : (W == 0) = false := by simp; omega
  have c0 : (w.alloc (.cells #[.int .i64 base, .int .i64 least, .int .i64 most, .int .i64 skew, .int .i64 damp, .int .i64 bias, .int .i64 fst, .int .u8 btw] 29)).cell? ⟨w.heap.size, 0, none⟩ = some (.int .i64 base) := World.cell?_alloc_at _ _ _ _ rfl
  have c1 : (w.alloc (.cells #[.int .i64 base, .int .i64 least, .int .i64 most, .int .i64 skew, .int .i64 damp, .int .i64 bias, .int .i64 fst, .int .u8 btw] 29)).cell? ⟨w.heap.size, 1, none⟩ = some (.int .i64 least) := World.cell?_alloc_at _ _ _ _ rfl
  have c2 : (w.alloc (.cells #[.int .i64 base, .int .i64 least, .int .i64 most, .int .i64 skew, .int .i64 damp, .int .i64 bias, .int .i64 fst, .int .u8 btw] 29)).cell? ⟨w.heap.size, 2, none⟩ = some (.int .i64 most) := World.cell?_alloc_at _ _ _ _ rfl
  have c3 : (w.alloc (.cells #[.int .i64 base, .int .i64 least, .int .i64 most, .int .i64 skew, .int .i64 damp, .int .i64 bias, .int .i64 fst, .int .u8 btw] 29)).cell? ⟨w.heap.size, 3, none⟩ = some (.int .i64 skew) := World.cell?_alloc_at _ _ _ _ rfl
  have c4 : (w.alloc (.cells #[.int .i64 base, .int .i64 least, .int .i64 most, .int .i64 skew, .int .i64 damp, .int .i64 bias, .int .i64 fst, .int .u8 btw] 29)).cell? ⟨w.heap.size, 4, none⟩ = some (.int .i64 damp) := World.cell?_alloc_at _ _ _ _ rfl
  generalize hwr : w.alloc (.cells #[.int .i64 base, .int .i64 least, .int .i64 most, .int .i64 skew, .int .i64 damp, .int .i64 bias, .int .i64 fst, .int .u8 btw] 29) = WR at *
  clear m2 l2 l1
  cases first
  · have hX2 := hX'.out
    unfold ad0 at hX2
    simp only [Bool.false_eq_true, if_false] at hX2
    clear hX' e1
    generalize hE : delta.tdiv 2 = E at *
    have e3 := tdiv_le e2.1 (show 0 ≤ points by omega)
    generalize hE2 : E.tdiv points = E2 at *
    go_enter Try.func25, Try.ntmps25
    go_wp2
    go_loopw [1, 9] (fun x y wr => ∃ d k : Int, x = .int .i64 d ∧ y = .int .i64 k ∧ Hid (∃ f : Nat, f ≤ 64 ∧ 0 ≤ d ∧ d ≤ 8589934592 ∧ d < 2 ^ f ∧ 0 ≤ k ∧ k + 36 * f ≤ 2304 ∧ adR W lim base f d k = R) ∧ Hid (wr = WR)) (fun x _ _ => (RowKit.intOf x).toNat)
    case atStart => exact ⟨_, _, rfl, rfl, ⟨64, by omega, X0, X1, by omega, by omega, by omega, HR.out⟩, rfl⟩
    case round =>
      obtain ⟨d, k, rfl, rfl, ⟨f, g1, g2, g3, g4, g5, g6, g7⟩, hwr2⟩ := hrel
      rw [Hid] at hwr2
      subst hwr2
      by_cases c : lim < d
      · obtain ⟨f, rfl⟩ : ∃ f', f = f' + 1 := by cases f with | zero => simp at g4; omega | succ f => exact ⟨f, rfl⟩
        rw [adR, if_pos c] at g7
        have hh := tdiv_half g2 (show 2 ≤ W by omega)
        have hn := (tdiv_le g2 (show 0 ≤ W by omega)).1
        have hf : Hid (∃ f : Nat, f ≤ 64 ∧ 0 ≤ d.tdiv W ∧ d.tdiv W ≤ 8589934592 ∧ d.tdiv W < 2 ^ f ∧ 0 ≤ k + base ∧ k + base + 36 * f ≤ 2304 ∧ adR W lim base f (d.tdiv W) (k + base) = R) := ⟨f, by omega, hn, by omega, by rw [Int.pow_succ] at g4; omega, by omega, by omega, g7⟩
        have kb : k ≤ 2304 := by omega
        clear g1 g4 g6 g7 HR
        generalize hqd : d.tdiv W = Q at *
        go_wp2
        refine ⟨⟨_, _, rfl, rfl, hf, by first | exact trivial | exact rfl⟩, ?_⟩
        simp [RowKit.intOf]; omega
      · have hR : R = (d, k) := by
          rw [← g7]
          cases f with
          | zero => rfl
          | succ f => rw [adR, if_neg c]
        subst hR
        have kb : k ≤ 2304 := by omega
        clear g1 g4 g6 g7 HR
        have c2 : decide (lim < d) = false := decide_eq_false c
        have q0 : 0 ≤ (W + 1) * d := Int.mul_nonneg (by omega) (by omega)
        have q1 : (W + 1) * d ≤ 37 * 8589934592 := Int.mul_le_mul (by omega) (by omega) (by omega) (by omega)
        have q2 := tdiv_le q0 (show 0 ≤ d + skew by omega)
        have q3 : (d + skew == 0) = false := by simp; omega
        generalize hq4 : (W + 1) * d = Y at *
        generalize hq5 : Y.tdiv (d + skew) = Z at *
        go_wp2
        go_ret
        exact ⟨rfl, HB.out⟩
  · have hX2 := hX'.out
    unfold ad0 at hX2
    simp only [if_true] at hX2
    clear hX' e2
    generalize hE : delta.tdiv damp = E at *
    have e3 := tdiv_le e1.1 (show 0 ≤ points by omega)
    generalize hE2 : E.tdiv points = E2 at *
    go_enter Try.func25, Try.ntmps25
    go_wp2
    go_loopw [1, 9] (fun x y wr => ∃ d k : Int, x = .int .i64 d ∧ y = .int .i64 k ∧ Hid (∃ f : Nat, f ≤ 64 ∧ 0 ≤ d ∧ d ≤ 8589934592 ∧ d < 2 ^ f ∧ 0 ≤ k ∧ k + 36 * f ≤ 2304 ∧ adR W lim base f d k = R) ∧ Hid (wr = WR)) (fun x _ _ => (RowKit.intOf x).toNat)
    case atStart => exact ⟨_, _, rfl, rfl, ⟨64, by omega, X0, X1, by omega, by omega, by omega, HR.out⟩, rfl⟩
    case round =>
      obtain ⟨d, k, rfl, rfl, ⟨f, g1, g2, g3, g4, g5, g6, g7⟩, hwr2⟩ := hrel
      rw [Hid] at hwr2
      subst hwr2
      by_cases c : lim < d
      · obtain ⟨f, rfl⟩ : ∃ f', f = f' + 1 := by cases f with | zero => simp at g4; omega | succ f => exact ⟨f, rfl⟩
        rw [adR, if_pos c] at g7
        have hh := tdiv_half g2 (show 2 ≤ W by omega)
        have hn := (tdiv_le g2 (show 0 ≤ W by omega)).1
        have hf : Hid (∃ f : Nat, f ≤ 64 ∧ 0 ≤ d.tdiv W ∧ d.tdiv W ≤ 8589934592 ∧ d.tdiv W < 2 ^ f ∧ 0 ≤ k + base ∧ k + base + 36 * f ≤ 2304 ∧ adR W lim base f (d.tdiv W) (k + base) = R) := ⟨f, by omega, hn, by omega, by rw [Int.pow_succ] at g4; omega, by omega, by omega, g7⟩
        have kb : k ≤ 2304 := by omega
        clear g1 g4 g6 g7 HR
        generalize hqd : d.tdiv W = Q at *
        go_wp2
        refine ⟨⟨_, _, rfl, rfl, hf, by first | exact trivial | exact rfl⟩, ?_⟩
        simp [RowKit.intOf]; omega
      · have hR : R = (d, k) := by
          rw [← g7]
          cases f with
          | zero => rfl
          | succ f => rw [adR, if_neg c]
        subst hR
        have kb : k ≤ 2304 := by omega
        clear g1 g4 g6 g7 HR
        have c2 : decide (lim < d) = false := decide_eq_false c
        have q0 : 0 ≤ (W + 1) * d := Int.mul_nonneg (by omega) (by omega)
        have q1 : (W + 1) * d ≤ 37 * 8589934592 := Int.mul_le_mul (by omega) (by omega) (by omega) (by omega)
        have q2 := tdiv_le q0 (show 0 ≤ d + skew by omega)
        have q3 : (d + skew == 0) = false := by simp; omega
        generalize hq4 : (W + 1) * d = Y at *
        generalize hq5 : Y.tdiv (d + skew) = Z at *
        go_wp2
        go_ret
        exact ⟨rfl, HB.out⟩
theorem chk_iff (p : Bt) : chk p = true ↔ (3 ≤ p.base ∧ p.base ≤ 36 ∧ 1 ≤ p.most ∧ p.most ≤ p.base - 2 ∧ 0 ≤ p.least ∧ p.least ≤ p.most ∧ 1 ≤ p.skew ∧ p.skew ≤ 10000 ∧ 2 ≤ p.damp ∧ p.damp ≤ 10000 ∧ 0 ≤ p.bias ∧ p.bias ≤ 10000 ∧ 1 ≤ p.first ∧ p.first ≤ 1114111 ∧ 33 ≤ p.btw ∧ p.btw ≤ 126 ∧ p.btw < p.first ∧ dgTo p.base p.btw < 0) := by
  unfold chk
  simp only [Bool.and_eq_true, wiB_iff, decide_eq_true_eq]
  omega
set_option maxRecDepth 100000 in
set_option maxHeartbeats 4000000 in
theorem rcheck_any (p : Bt) (w : World) (hb : 0 ≤ p.btw) (hb2 : p.btw < 256) : Calls Try.prog 7 #[.agg (bv p)] w fun e w' => e = .returned (.bool (chk p)) ∧ Below w.heap.size w w' := by
  have B0 := fun o => (Below.refl w.heap.size w).alloc (Nat.le_refl _) o
  have kd := fun w => rdigitBy_any p.base p.btw w hb hb2
  have hc := chk_iff p
  obtain ⟨base, least, most, skew, damp, bias, fst, btw⟩ := p
  unfold bv at B0 ⊢
  simp only at hb hb2 kd hc B0 ⊢
  obtain ⟨DT, hDT⟩ : ∃ DT, dgTo base btw = DT := ⟨_, rfl⟩
  simp only [hDT] at kd hc
  generalize chk ⟨base, least, most, skew, damp, bias, fst, btw⟩ = CK at *
  clear hDT
  replace B0 : Hid (∀ o : Obj, Below w.heap.size w (w.alloc o)) := B0
  by_cases h0 : base < 3
  · have e0 : decide (base < 3) = true := decide_eq_true h0
    obtain rfl : CK = false := by cases CK; rfl; exfalso; have := hc.1 rfl; omega
    clear hc h0
    go_enter Try.func7, Try.ntmps7
    go_wp2_with (go_at_call 19; refine (kd _).mono ?_; rintro e w' ⟨rfl, hw⟩; rw [hw]; clear hw)
    go_ret
    exact ⟨rfl, B0.out _⟩
  have e0 : decide (base < 3) = false := decide_eq_false h0
  by_cases h1 : 36 < base
  · have e1 : decide (36 < base) = true := decide_eq_true h1
    obtain rfl : CK = false := by cases CK; rfl; exfalso; have := hc.1 rfl; omega
    clear hc h0 h1
    go_enter Try.func7, Try.ntmps7
    go_wp2_with (go_at_call 19; refine (kd _).mono ?_; rintro e w' ⟨rfl, hw⟩; rw [hw]; clear hw)
    go_ret
    exact ⟨rfl, B0.out _⟩
  have e1 : decide (36 < base) = false := decide_eq_false h1
  by_cases h2 : least < 0
  · have e2 : decide (least < 0) = true := decide_eq_true h2
    obtain rfl : CK = false := by cases CK; rfl; exfalso; have := hc.1 rfl; omega
    clear hc h0 h1 h2
    go_enter Try.func7, Try.ntmps7
    go_wp2_with (go_at_call 19; refine (kd _).mono ?_; rintro e w' ⟨rfl, hw⟩; rw [hw]; clear hw)
    go_ret
    exact ⟨rfl, B0.out _⟩
  have e2 : decide (least < 0) = false := decide_eq_false h2
  by_cases h3 : base - 2 < most
  · have e3 : decide (base - 2 < most) = true := decide_eq_true h3
    have aw : wrap64 (base - 2) = base - 2 := by unfold wrap64; omega
    obtain rfl : CK = false := by cases CK; rfl; exfalso; have := hc.1 rfl; omega
    clear hc h0 h1 h2 h3
    go_enter Try.func7, Try.ntmps7
    go_wp2_with (go_at_call 19; refine (kd _).mono ?_; rintro e w' ⟨rfl, hw⟩; rw [hw]; clear hw)
    go_ret
    exact ⟨rfl, B0.out _⟩
  have e3 : decide (base - 2 < most) = false := decide_eq_false h3
  have aw : wrap64 (base - 2) = base - 2 := by unfold wrap64; omega
  by_cases h4 : most < least
  · have e4 : decide (most < least) = true := decide_eq_true h4
    obtain rfl : CK = false := by cases CK; rfl; exfalso; have := hc.1 rfl; omega
    clear hc h0 h1 h2 h3 h4
    go_enter Try.func7, Try.ntmps7
    go_wp2_with (go_at_call 19; refine (kd _).mono ?_; rintro e w' ⟨rfl, hw⟩; rw [hw]; clear hw)
    go_ret
    exact ⟨rfl, B0.out _⟩
  have e4 : decide (most < least) = false := decide_eq_false h4
  by_cases h5 : most < 1
  · have e5 : decide (most < 1) = true := decide_eq_true h5
    obtain rfl : CK = false := by cases CK; rfl; exfalso; have := hc.1 rfl; omega
    clear hc h0 h1 h2 h3 h4 h5
    go_enter Try.func7, Try.ntmps7
    go_wp2_with (go_at_call 19; refine (kd _).mono ?_; rintro e w' ⟨rfl, hw⟩; rw [hw]; clear hw)
    go_ret
    exact ⟨rfl, B0.out _⟩
  have e5 : decide (most < 1) = false := decide_eq_false h5
  by_cases h6 : skew < 1
  · have e6 : decide (skew < 1) = true := decide_eq_true h6
    obtain rfl : CK = false := by cases CK; rfl; exfalso; have := hc.1 rfl; omega
    clear hc h0 h1 h2 h3 h4 h5 h6
    go_enter Try.func7, Try.ntmps7
    go_wp2_with (go_at_call 19; refine (kd _).mono ?_; rintro e w' ⟨rfl, hw⟩; rw [hw]; clear hw)
    go_ret
    exact ⟨rfl, B0.out _⟩
  have e6 : decide (skew < 1) = false := decide_eq_false h6
  by_cases h7 : 10000 < skew
  · have e7 : decide (10000 < skew) = true := decide_eq_true h7
    obtain rfl : CK = false := by cases CK; rfl; exfalso; have := hc.1 rfl; omega
    clear hc h0 h1 h2 h3 h4 h5 h6 h7
    go_enter Try.func7, Try.ntmps7
    go_wp2_with (go_at_call 19; refine (kd _).mono ?_; rintro e w' ⟨rfl, hw⟩; rw [hw]; clear hw)
    go_ret
    exact ⟨rfl, B0.out _⟩
  have e7 : decide (10000 < skew) = false := decide_eq_false h7
  by_cases h8 : damp < 2
  · have e8 : decide (damp < 2) = true := decide_eq_true h8
    obtain rfl : CK = false := by cases CK; rfl; exfalso; have := hc.1 rfl; omega
    clear hc h0 h1 h2 h3 h4 h5 h6 h7 h8
    go_enter Try.func7, Try.ntmps7
    go_wp2_with (go_at_call 19; refine (kd _).mono ?_; rintro e w' ⟨rfl, hw⟩; rw [hw]; clear hw)
    go_ret
    exact ⟨rfl, B0.out _⟩
  have e8 : decide (damp < 2) = false := decide_eq_false h8
  by_cases h9 : 10000 < damp
  · have e9 : decide (10000 < damp) = true := decide_eq_true h9
    obtain rfl : CK = false := by cases CK; rfl; exfalso; have := hc.1 rfl; omega
    clear hc h0 h1 h2 h3 h4 h5 h6 h7 h8 h9
    go_enter Try.func7, Try.ntmps7
    go_wp2_with (go_at_call 19; refine (kd _).mono ?_; rintro e w' ⟨rfl, hw⟩; rw [hw]; clear hw)
    go_ret
    exact ⟨rfl, B0.out _⟩
  have e9 : decide (10000 < damp) = false := decide_eq_false h9
  by_cases h10 : bias < 0
  · have e10 : decide (bias < 0) = true := decide_eq_true h10
    obtain rfl : CK = false := by cases CK; rfl; exfalso; have := hc.1 rfl; omega
    clear hc h0 h1 h2 h3 h4 h5 h6 h7 h8 h9 h10
    go_enter Try.func7, Try.ntmps7
    go_wp2_with (go_at_call 19; refine (kd _).mono ?_; rintro e w' ⟨rfl, hw⟩; rw [hw]; clear hw)
    go_ret
    exact ⟨rfl, B0.out _⟩
  have e10 : decide (bias < 0) = false := decide_eq_false h10
  by_cases h11 : 10000 < bias
  · have e11 : decide (10000 < bias) = true := decide_eq_true h11
    obtain rfl : CK = false := by cases CK; rfl; exfalso; have := hc.1 rfl; omega
    clear hc h0 h1 h2 h3 h4 h5 h6 h7 h8 h9 h10 h11
    go_enter Try.func7, Try.ntmps7
    go_wp2_with (go_at_call 19; refine (kd _).mono ?_; rintro e w' ⟨rfl, hw⟩; rw [hw]; clear hw)
    go_ret
    exact ⟨rfl, B0.out _⟩
  have e11 : decide (10000 < bias) = false := decide_eq_false h11
  by_cases h12 : fst < 1
  · have e12 : decide (fst < 1) = true := decide_eq_true h12
    obtain rfl : CK = false := by cases CK; rfl; exfalso; have := hc.1 rfl; omega
    clear hc h0 h1 h2 h3 h4 h5 h6 h7 h8 h9 h10 h11 h12
    go_enter Try.func7, Try.ntmps7
    go_wp2_with (go_at_call 19; refine (kd _).mono ?_; rintro e w' ⟨rfl, hw⟩; rw [hw]; clear hw)
    go_ret
    exact ⟨rfl, B0.out _⟩
  have e12 : decide (fst < 1) = false := decide_eq_false h12
  by_cases h13 : 1114111 < fst
  · have e13 : decide (1114111 < fst) = true := decide_eq_true h13
    obtain rfl : CK = false := by cases CK; rfl; exfalso; have := hc.1 rfl; omega
    clear hc h0 h1 h2 h3 h4 h5 h6 h7 h8 h9 h10 h11 h12 h13
    go_enter Try.func7, Try.ntmps7
    go_wp2_with (go_at_call 19; refine (kd _).mono ?_; rintro e w' ⟨rfl, hw⟩; rw [hw]; clear hw)
    go_ret
    exact ⟨rfl, B0.out _⟩
  have e13 : decide (1114111 < fst) = false := decide_eq_false h13
  by_cases h14 : 33 ≤ btw
  · have e14 : decide (33 ≤ btw) = true := decide_eq_true h14
    by_cases h15 : btw ≤ 126
    · have e15 : decide (btw ≤ 126) = true := decide_eq_true h15
      by_cases h16 : btw < fst
      · have e16 : decide (btw < fst) = true := decide_eq_true h16
        by_cases h17 : DT < 0
        · have e17 : decide (DT < 0) = true := decide_eq_true h17
          obtain rfl : CK = true := by exact hc.2 (by omega)
          clear hc h0 h1 h2 h3 h4 h5 h6 h7 h8 h9 h10 h11 h12 h13 h14 h15 h16 h17
          go_enter Try.func7, Try.ntmps7
          go_wp2_with (go_at_call 19; refine (kd _).mono ?_; rintro e w' ⟨rfl, hw⟩; rw [hw]; clear hw)
          go_ret
          exact ⟨rfl, B0.out _⟩
        · have e17 : decide (DT < 0) = false := decide_eq_false h17
          obtain rfl : CK = false := by cases CK; rfl; exfalso; have := hc.1 rfl; omega
          clear hc h0 h1 h2 h3 h4 h5 h6 h7 h8 h9 h10 h11 h12 h13 h14 h15 h16 h17
          go_enter Try.func7, Try.ntmps7
          go_wp2_with (go_at_call 19; refine (kd _).mono ?_; rintro e w' ⟨rfl, hw⟩; rw [hw]; clear hw)
          go_ret
          exact ⟨rfl, B0.out _⟩
      · have e16 : decide (btw < fst) = false := decide_eq_false h16
        obtain rfl : CK = false := by cases CK; rfl; exfalso; have := hc.1 rfl; omega
        clear hc h0 h1 h2 h3 h4 h5 h6 h7 h8 h9 h10 h11 h12 h13 h14 h15 h16
        go_enter Try.func7, Try.ntmps7
        go_wp2_with (go_at_call 19; refine (kd _).mono ?_; rintro e w' ⟨rfl, hw⟩; rw [hw]; clear hw)
        go_ret
        exact ⟨rfl, B0.out _⟩
    · have e15 : decide (btw ≤ 126) = false := decide_eq_false h15
      obtain rfl : CK = false := by cases CK; rfl; exfalso; have := hc.1 rfl; omega
      clear hc h0 h1 h2 h3 h4 h5 h6 h7 h8 h9 h10 h11 h12 h13 h14 h15
      go_enter Try.func7, Try.ntmps7
      go_wp2_with (go_at_call 19; refine (kd _).mono ?_; rintro e w' ⟨rfl, hw⟩; rw [hw]; clear hw)
      go_ret
      exact ⟨rfl, B0.out _⟩
  · have e14 : decide (33 ≤ btw) = false := decide_eq_false h14
    obtain rfl : CK = false := by cases CK; rfl; exfalso; have := hc.1 rfl; omega
    clear hc h0 h1 h2 h3 h4 h5 h6 h7 h8 h9 h10 h11 h12 h13 h14
    go_enter Try.func7, Try.ntmps7
    go_wp2_with (go_at_call 19; refine (kd _).mono ?_; rintro e w' ⟨rfl, hw⟩; rw [hw]; clear hw)
    go_ret
    exact ⟨rfl, B0.out _⟩
set_option maxRecDepth 100000 in
set_option maxHeartbeats 1000000 in
theorem plain_any (p : Bt) (w : World) : Calls Try.prog 8 #[.agg (bv p)] w fun e w' => e = .returned (.agg (bv p)) ∧ Below w.heap.size w w' := by
  unfold bv
  have B0 := fun o => (Below.refl w.heap.size w).alloc (Nat.le_refl _) o
  go_enter Try.func8, Try.ntmps8
  go_wp2
  refine bodyPost_ret (v := .agg #[.int .i64 p.base, .int .i64 p.least, .int .i64 p.most, .int .i64 p.skew, .int .i64 p.damp, .int .i64 p.bias, .int .i64 p.first, .int .u8 p.btw]) ?_ rfl ⟨rfl, (B0 _).alloc (by simp) _⟩
  simp [results, Try.results8, go_sem]
end Go.Proofs.Ytahmeejcgddlhab
