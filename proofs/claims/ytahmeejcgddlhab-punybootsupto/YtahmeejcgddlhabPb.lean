/-
  The bias behind a delta, of the program and of the document; the greatest power of two in a number. Conditions: numbers that fit.
-/
import Derived.Test.YtahmeejcgddlhabPa
import Derived.Deep.LoopGhost
namespace Go.Proofs.Ytahmeejcgddlhab
open Go.RowKit
/-- The loop of the bias. -/
def adR (wd lim B : Int) : Nat → Int → Int → Int × Int
  | 0, d, k => (d, k)
  | f + 1, d, k => if lim < d then adR wd lim B f (d.tdiv wd) (k + B) else (d, k)
/-- Where it begins. -/
def ad0 (D : Int) (delta points : Int) (first : Bool) : Int := (if first = true then delta.tdiv D else delta.tdiv 2) + (if first = true then delta.tdiv D else delta.tdiv 2).tdiv points
/-- The bias. -/
def adF (p : Bt) (delta points : Int) (first : Bool) : Int :=
  let r := adR (p.base - p.least) (((p.base - p.least) * p.most).tdiv 2) p.base 64 (ad0 p.damp delta points first) 0
  r.2 + ((p.base - p.least + 1) * r.1).tdiv (r.1 + p.skew)
structure Okb (p : Bt) : Prop where
  b1 : 3 ≤ p.base
  b2 : p.base ≤ 36
  l1 : 0 ≤ p.least
  l2 : p.least ≤ p.most
  m1 : 1 ≤ p.most
  m2 : p.most ≤ p.base - 2
  s1 : 1 ≤ p.skew
  s2 : p.skew ≤ 10000
  d1 : 2 ≤ p.damp
  d2 : p.damp ≤ 10000
  i1 : 0 ≤ p.bias
  i2 : p.bias ≤ 10000
  f1 : 1 ≤ p.first
  f2 : p.first ≤ 1114111
  t1 : 33 ≤ p.btw
  t2 : p.btw ≤ 126
theorem usual_ok : Okb usual := ⟨by decide, by decide, by decide, by decide, by decide, by decide, by decide, by decide, by decide, by decide, by decide, by decide, by decide, by decide, by decide, by decide⟩
theorem tdiv_le {a b : Int} (ha : 0 ≤ a) (hb : 0 ≤ b) : 0 ≤ a.tdiv b ∧ a.tdiv b ≤ a := ⟨Int.tdiv_nonneg ha hb, Int.tdiv_le_self _ ha⟩
theorem tdiv_half {a b : Int} (ha : 0 ≤ a) (hb : 2 ≤ b) : 2 * a.tdiv b ≤ a := by
  have h1 := Int.mul_tdiv_self_le (x := a) (k := b) ha
  have h2 := (tdiv_le ha (show 0 ≤ b by omega)).1
  have : 2 * a.tdiv b ≤ b * a.tdiv b := Int.mul_le_mul_of_nonneg_right hb h2
  omega
/-- Fuel that is enough. -/
theorem adR_more {wd lim B : Int} (hw : 2 ≤ wd) (hl : 0 ≤ lim) : ∀ (f g : Nat) (d k : Int), 0 ≤ d → d < 2 ^ f → d < 2 ^ g → adR wd lim B f d k = adR wd lim B g d k
  | 0, 0, _, _, _, _, _ => rfl
  | 0, g + 1, d, k, h0, h1, _ => by
    rw [adR, adR, if_neg (by simp at h1; omega)]
  | f + 1, 0, d, k, h0, _, h2 => by
    rw [adR, adR, if_neg (by simp at h2; omega)]
  | f + 1, g + 1, d, k, h0, h1, h2 => by
    have hh := tdiv_half h0 hw
    have hn := (tdiv_le h0 (show 0 ≤ wd by omega)).1
    rw [adR, adR, adR_more hw hl f g (d.tdiv wd) (k + B) hn (by rw [Int.pow_succ] at h1; omega) (by rw [Int.pow_succ] at h2; omega)]
theorem adR_bound {wd lim B : Int} (hw : 2 ≤ wd) (hB : 0 ≤ B) : ∀ (f : Nat) (d k : Int), 0 ≤ d → 0 ≤ (adR wd lim B f d k).1 ∧ (adR wd lim B f d k).1 ≤ d ∧ k ≤ (adR wd lim B f d k).2 ∧ (adR wd lim B f d k).2 ≤ k + f * B
  | 0, d, k, h => ⟨h, Int.le_refl _, Int.le_refl _, by simp [adR]⟩
  | f + 1, d, k, h => by
    rw [adR]
    have e : ((f + 1 : Nat) : Int) * B = f * B + B := by rw [Int.natCast_succ, Int.add_mul, Int.one_mul]
    have z : (0 : Int) ≤ f * B := Int.mul_nonneg (by omega) hB
    by_cases c : lim < d
    · rw [if_pos c]
      obtain ⟨h1, h2⟩ := tdiv_le h (show 0 ≤ wd by omega)
      obtain ⟨a1, a2, a3, a4⟩ := adR_bound hw hB f (d.tdiv wd) (k + B) h1
      exact ⟨a1, by omega, by omega, by omega⟩
    · rw [if_neg c]
      exact ⟨h, Int.le_refl _, Int.le_refl _, by show k ≤ _; omega⟩
theorem ad0_bound {D delta points : Int} (first : Bool) (hD : 1 ≤ D) (h0 : 0 ≤ delta) (h1 : delta ≤ 4294967296) (hp : 1 ≤ points) : 0 ≤ ad0 D delta points first ∧ ad0 D delta points first ≤ 8589934592 := by
  unfold ad0
  have a := tdiv_le h0 (show 0 ≤ D by omega)
  have b := tdiv_le h0 (show (0 : Int) ≤ 2 by omega)
  cases first
  · simp only [Bool.false_eq_true, if_false]
    have c := tdiv_le b.1 (show 0 ≤ points by omega)
    omega
  · simp only [if_true]
    have c := tdiv_le a.1 (show 0 ≤ points by omega)
    omega
set_option maxRecDepth 100000 in
set_option maxHeartbeats 2000000 in
theorem adapt_any (p : Bt) (delta points : Int) (first : Bool) (w : World) (hp : Okb p) (h0 : 0 ≤ delta) (h1 : delta ≤ 4294967296) (h2 : 1 ≤ points) (h3 : points ≤ 4294967296) : Calls Try.prog 41 #[.agg (bv p), .int .i64 delta, .int .i64 points, .bool first] w fun e w' => e = .returned (.int .i64 (adF p delta points first)) ∧ Below w.heap.size w w' := by
  have Hb := ad0_bound (D := p.damp) first (by have := hp.d1; omega) h0 h1 h2
  have HB : Hid (Below w.heap.size w (w.alloc (.cells (bv p) 23))) := (Below.refl w.heap.size w).alloc (Nat.le_refl _) _
  unfold bv at HB ⊢
  obtain ⟨b1, b2, l1, l2, m1, m2, s1, s2, d1, d2, -, -, -, -, -, -⟩ := hp
  obtain ⟨base, least, most, skew, damp, bias, fst, btw⟩ := p
  simp only at b1 b2 l1 l2 m1 m2 s1 s2 d1 d2 Hb HB ⊢
  have hw1 : 2 ≤ base - least := by omega
  have hw2 : base - least ≤ 36 := by omega
  have hlim : 0 ≤ ((base - least) * most).tdiv 2 := Int.tdiv_nonneg (Int.mul_nonneg (by omega) (by omega)) (by omega)
  have hml : 0 ≤ (base - least) * most := Int.mul_nonneg (by omega) (by omega)
  have hml2 : (base - least) * most ≤ 36 * 36 := Int.mul_le_mul (by omega) (by omega) (by omega) (by omega)
  have hm2 : most ≤ 36 := by omega
  have e1 := tdiv_le h0 (show 0 ≤ damp by omega)
  have e2 := tdiv_le h0 (show (0 : Int) ≤ 2 by omega)
  have hd0 : (damp == 0) = false := by simp; omega
  have hp0 : (points == 0) = false := by simp; omega
  unfold adF
  obtain ⟨X, hX⟩ : ∃ X, ad0 damp delta points first = X := ⟨_, rfl⟩
  simp only [hX] at Hb ⊢
  have hX' : Hid (ad0 damp delta points first = X) := hX
  clear hX
  obtain ⟨R, HR⟩ : ∃ R, Hid (adR (base - least) (((base - least) * most).tdiv 2) base 64 X 0 = R) := ⟨_, rfl⟩
  rw [HR.out]
  generalize hW : base - least = W at *
  generalize hML : W * most = ML at *
  generalize hLM : ML.tdiv 2 = lim at *
  obtain ⟨X0, X1⟩ := Hb
  have hlim2 : lim ≤ 1296 := by have := tdiv_le hml (show (0 : Int) ≤ 2 by omega); omega
  have hW0 : (W == 0) = false := by simp; omega
  have c0 : (w.alloc (.cells #[.int .i64 base, .int .i64 least, .int .i64 most, .int .i64 skew, .int .i64 damp, .int .i64 bias, .int .i64 fst, .int .u8 btw] 23)).cell? ⟨w.heap.size, 0, none⟩ = some (.int .i64 base) := World.cell?_alloc_at _ _ _ _ rfl
  have c1 : (w.alloc (.cells #[.int .i64 base, .int .i64 least, .int .i64 most, .int .i64 skew, .int .i64 damp, .int .i64 bias, .int .i64 fst, .int .u8 btw] 23)).cell? ⟨w.heap.size, 1, none⟩ = some (.int .i64 least) := World.cell?_alloc_at _ _ _ _ rfl
  have c2 : (w.alloc (.cells #[.int .i64 base, .int .i64 least, .int .i64 most, .int .i64 skew, .int .i64 damp, .int .i64 bias, .int .i64 fst, .int .u8 btw] 23)).cell? ⟨w.heap.size, 2, none⟩ = some (.int .i64 most) := World.cell?_alloc_at _ _ _ _ rfl
  have c3 : (w.alloc (.cells #[.int .i64 base, .int .i64 least, .int .i64 most, .int .i64 skew, .int .i64 damp, .int .i64 bias, .int .i64 fst, .int .u8 btw] 23)).cell? ⟨w.heap.size, 3, none⟩ = some (.int .i64 skew) := World.cell?_alloc_at _ _ _ _ rfl
  have c4 : (w.alloc (.cells #[.int .i64 base, .int .i64 least, .int .i64 most, .int .i64 skew, .int .i64 damp, .int .i64 bias, .int .i64 fst, .int .u8 btw] 23)).cell? ⟨w.heap.size, 4, none⟩ = some (.int .i64 damp) := World.cell?_alloc_at _ _ _ _ rfl
  generalize hwr : w.alloc (.cells #[.int .i64 base, .int .i64 least, .int .i64 most, .int .i64 skew, .int .i64 damp, .int .i64 bias, .int .i64 fst, .int .u8 btw] 23) = WR at *
  clear m2 l2 l1
  cases first
  · have hX2 := hX'.out
    unfold ad0 at hX2
    simp only [Bool.false_eq_true, if_false] at hX2
    clear hX' e1
    generalize hE : delta.tdiv 2 = E at *
    have e3 := tdiv_le e2.1 (show 0 ≤ points by omega)
    generalize hE2 : E.tdiv points = E2 at *
    go_enter Try.func41, Try.ntmps41
    go_wp2
    go_loopw [1, 10] (fun x y wr => ∃ d k : Int, x = .int .i64 d ∧ y = .int .i64 k ∧ Hid (∃ f : Nat, f ≤ 64 ∧ 0 ≤ d ∧ d ≤ 8589934592 ∧ d < 2 ^ f ∧ 0 ≤ k ∧ k + 36 * f ≤ 2304 ∧ adR W lim base f d k = R) ∧ Hid (wr = WR)) (fun x _ _ => (RowKit.intOf x).toNat)
    case atStart => exact ⟨_, _, rfl, rfl, ⟨64, by omega, X0, X1, by omega, by omega, by omega, HR.out⟩, rfl⟩
    case round =>
      obtain ⟨d, k, rfl, rfl, ⟨f, g1, g2, g3, g4, g5, g6, g7⟩, hwr2⟩ := hrel
      rw [Hid] at hwr2
      subst hwr2
      by_cases c : lim < d
      · obtain ⟨f, rfl⟩ : ∃ f', f = f' + 1 := by cases f with | zero => simp at g4; omega | succ f => exact ⟨f, rfl⟩
        rw [adR, if_pos c] at g7
        have hh := tdiv_half g2 (show 2 ≤ W by omega)
        have hn := (tdiv_le g2 (show 0 ≤ W by omega)).1
        have hf : Hid (∃ f : Nat, f ≤ 64 ∧ 0 ≤ d.tdiv W ∧ d.tdiv W ≤ 8589934592 ∧ d.tdiv W < 2 ^ f ∧ 0 ≤ k + base ∧ k + base + 36 * f ≤ 2304 ∧ adR W lim base f (d.tdiv W) (k + base) = R) := ⟨f, by omega, hn, by omega, by rw [Int.pow_succ] at g4; omega, by omega, by omega, g7⟩
        have kb : k ≤ 2304 := by omega
        clear g1 g4 g6 g7 HR
        generalize hqd : d.tdiv W = Q at *
        go_wp2
        refine ⟨⟨_, _, rfl, rfl, hf, by first | exact trivial | exact rfl⟩, ?_⟩
        simp [RowKit.intOf]; omega
      · have hR : R = (d, k) := by
          rw [← g7]
          cases f with
          | zero => rfl
          | succ f => rw [adR, if_neg c]
        subst hR
        have kb : k ≤ 2304 := by omega
        clear g1 g4 g6 g7 HR
        have c2 : decide (lim < d) = false := decide_eq_false c
        have q0 : 0 ≤ (W + 1) * d := Int.mul_nonneg (by omega) (by omega)
        have q1 : (W + 1) * d ≤ 37 * 8589934592 := Int.mul_le_mul (by omega) (by omega) (by omega) (by omega)
        have q2 := tdiv_le q0 (show 0 ≤ d + skew by omega)
        have q3 : (d + skew == 0) = false := by simp; omega
        generalize hq4 : (W + 1) * d = Y at *
        generalize hq5 : Y.tdiv (d + skew) = Z at *
        go_wp2
        go_ret
        exact ⟨rfl, HB.out⟩
  · have hX2 := hX'.out
    unfold ad0 at hX2
    simp only [if_true] at hX2
    clear hX' e2
    generalize hE : delta.tdiv damp = E at *
    have e3 := tdiv_le e1.1 (show 0 ≤ points by omega)
    generalize hE2 : E.tdiv points = E2 at *
    go_enter Try.func41, Try.ntmps41
    go_wp2
    go_loopw [1, 10] (fun x y wr => ∃ d k : Int, x = .int .i64 d ∧ y = .int .i64 k ∧ Hid (∃ f : Nat, f ≤ 64 ∧ 0 ≤ d ∧ d ≤ 8589934592 ∧ d < 2 ^ f ∧ 0 ≤ k ∧ k + 36 * f ≤ 2304 ∧ adR W lim base f d k = R) ∧ Hid (wr = WR)) (fun x _ _ => (RowKit.intOf x).toNat)
    case atStart => exact ⟨_, _, rfl, rfl, ⟨64, by omega, X0, X1, by omega, by omega, by omega, HR.out⟩, rfl⟩
    case round =>
      obtain ⟨d, k, rfl, rfl, ⟨f, g1, g2, g3, g4, g5, g6, g7⟩, hwr2⟩ := hrel
      rw [Hid] at hwr2
      subst hwr2
      by_cases c : lim < d
      · obtain ⟨f, rfl⟩ : ∃ f', f = f' + 1 := by cases f with | zero => simp at g4; omega | succ f => exact ⟨f, rfl⟩
        rw [adR, if_pos c] at g7
        have hh := tdiv_half g2 (show 2 ≤ W by omega)
        have hn := (tdiv_le g2 (show 0 ≤ W by omega)).1
        have hf : Hid (∃ f : Nat, f ≤ 64 ∧ 0 ≤ d.tdiv W ∧ d.tdiv W ≤ 8589934592 ∧ d.tdiv W < 2 ^ f ∧ 0 ≤ k + base ∧ k + base + 36 * f ≤ 2304 ∧ adR W lim base f (d.tdiv W) (k + base) = R) := ⟨f, by omega, hn, by omega, by rw [Int.pow_succ] at g4; omega, by omega, by omega, g7⟩
        have kb : k ≤ 2304 := by omega
        clear g1 g4 g6 g7 HR
        generalize hqd : d.tdiv W = Q at *
        go_wp2
        refine ⟨⟨_, _, rfl, rfl, hf, by first | exact trivial | exact rfl⟩, ?_⟩
        simp [RowKit.intOf]; omega
      · have hR : R = (d, k) := by
          rw [← g7]
          cases f with
          | zero => rfl
          | succ f => rw [adR, if_neg c]
        subst hR
        have kb : k ≤ 2304 := by omega
        clear g1 g4 g6 g7 HR
        have c2 : decide (lim < d) = false := decide_eq_false c
        have q0 : 0 ≤ (W + 1) * d := Int.mul_nonneg (by omega) (by omega)
        have q1 : (W + 1) * d ≤ 37 * 8589934592 := Int.mul_le_mul (by omega) (by omega) (by omega) (by omega)
        have q2 := tdiv_le q0 (show 0 ≤ d + skew by omega)
        have q3 : (d + skew == 0) = false := by simp; omega
        generalize hq4 : (W + 1) * d = Y at *
        generalize hq5 : Y.tdiv (d + skew) = Z at *
        go_wp2
        go_ret
        exact ⟨rfl, HB.out⟩
/-- Adapt's answer. -/
def adV (delta points : Int) (first : Bool) : Value := if 0 ≤ delta ∧ delta ≤ 2147483647 ∧ 1 ≤ points ∧ points ≤ 2147483647 then .tuple #[.int .i64 (adF usual delta points first), .int .i64 0] else .tuple #[.int .i64 0, .int .i64 1]
end Go.Proofs.Ytahmeejcgddlhab
