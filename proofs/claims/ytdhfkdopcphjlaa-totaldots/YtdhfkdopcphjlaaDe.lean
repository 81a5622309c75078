/-
  The contracts of Mean, Dot, ExactDot and Poly, and of the document's, and what a product of two floats adds to its number. Conditions: the floats are of 64 bits; the lists are not too long; two lists have one length.
-/
import Derived.Test.YtdhfkdopcphjlaaBs
import Derived.Deep.QuietTactic
import Derived.BigQuiet
import Derived.Test.YtdhfkdopcphjlaaTn
import Derived.Test.YtdhfkdopcphjlaaCm
import Derived.Test.YtdhfkdopcphjlaaCt
namespace Go.Proofs.Ytdhfkdopcphjlaa
open Go.RowKit
set_option maxRecDepth 100000 in
set_option maxHeartbeats 1000000 in
theorem mean_any (bs : List Nat) (v : Value) (w : World) (hb : ∀ b ∈ bs, b < 18446744073709551616) (hl : bs.length ≤ 65536) (h0 : 0 < bs.length) (hr : Rd w v (flt bs)) : Calls Try.prog 26 #[v] w fun e w' => ∃ r, e = .returned (.tuple #[.float .f64 r, .int .i64 0]) ∧ Fr .f64 r (floatBits .quo .f64 (exB bs) (floatOfInt .f64 (bs.length : Int))) ∧ Below w.heap.size w w' := by
  have k25 := exact_any bs v w hb hl hr
  obtain ⟨a0, c0, rfl, -⟩ := hr
  rw [flt_len] at k25 ⊢
  have hl2 : (bs.length : Int) ≤ 65536 := by omega
  have hl3 : ((bs.length : Int) == 0) = false := beq_eq_false_iff_ne.2 (by omega)
  replace k25 : Hid _ := k25
  go_enter Try.func26, Try.ntmps26
  go_wp2_with fail
  refine Calls.mono k25.out ?_
  rintro e w1 ⟨rfl, b1⟩
  have B1 : Hid (Below w.heap.size w w1) := b1
  clear b1 k25
  go_wp2_with (refine wpList_flt rfl .quo .f64 _ _ _ _ rfl rfl _ _ rfl rfl ?_)
  intro r w2 f1 a1
  go_wp2
  go_ret2
  exact ⟨r, rfl, f1.out, B1.out.trans (a1.out.below _)⟩
set_option maxRecDepth 100000 in
set_option maxHeartbeats 1000000 in
theorem rmean_any (bs : List Nat) (v : Value) (w : World) (hb : ∀ b ∈ bs, b < 18446744073709551616) (hl : bs.length ≤ 65536) (hr : Rd w v (flt bs)) : Calls Try.prog 28 #[v] w fun e w' => ∃ r, e = .returned (.float .f64 r) ∧ Fr .f64 r (floatBits .quo .f64 (rxB bs) (floatOfInt .f64 (bs.length : Int))) ∧ Below w.heap.size w w' := by
  have k27 := rexact_any bs v w hb hl hr
  obtain ⟨a0, c0, rfl, -⟩ := hr
  rw [flt_len] at k27 ⊢
  have hl2 : (bs.length : Int) ≤ 65536 := by omega
  replace k27 : Hid _ := k27
  go_enter Try.func28, Try.ntmps28
  go_wp2_with fail
  refine Calls.mono k27.out ?_
  rintro e w1 ⟨rfl, b1⟩
  have B1 : Hid (Below w.heap.size w w1) := b1
  clear b1 k27
  go_wp2_with (refine wpList_flt rfl .quo .f64 _ _ _ _ rfl rfl _ _ rfl rfl ?_)
  intro r w2 f1 a1
  go_wp2
  go_ret
  exact ⟨r, rfl, f1.out, B1.out.trans (a1.out.below _)⟩
set_option maxRecDepth 100000 in
set_option maxHeartbeats 400000 in
theorem mean_nil (p : Option Addr) (c : Nat) (w : World) : Calls Try.prog 26 #[.slice p 0 c] w fun e w' => e = .returned (.tuple #[.float .f64 0, .int .i64 1]) ∧ w' = w := by
  go_enter Try.func26, Try.ntmps26
  go_wp2
  go_ret2
  exact ⟨rfl, rfl⟩
/-- What the sum stands for. -/
def exO (bs : List Nat) : Option Nat := if ((exF bs).n || ((exF bs).a && (exF bs).l)) = true then none else some (exB bs)
theorem near_top (m : Nat) (e : Int) (hm : m < 18446744073709551616) : nearB 52 11 1023 m e ≤ 9218868437227405312 := nearB_le lay64 e hm
theorem ex_is (bs : List Nat) : Is (exB bs) (exO bs) := by
  unfold exO
  cases hc : ((exF bs).n || ((exF bs).a && (exF bs).l))
  · rw [if_neg (by decide)]
    refine ⟨rfl, ?_⟩
    have hr : rz (exZ bs) % 9223372036854775808 ≤ 9218868437227405312 ∧ rz (exZ bs) < 18446744073709551616 := by
      unfold rz
      have h1 := near_top (mantF (exZ bs).natAbs) ((cutF (exZ bs).natAbs : Int) - 2148) (by have := mant_lt (exZ bs).natAbs; omega)
      generalize nearB 52 11 1023 _ _ = X at *
      split <;> omega
    have key : exB bs < 18446744073709551616 ∧ exB bs % 9223372036854775808 ≤ 9218868437227405312 := by
      unfold exB exV
      cases hn : (exF bs).n
      · cases ha : (exF bs).a
        · rw [if_neg (by decide), if_neg (by decide)]
          split
          · decide
          · split
            · decide
            · exact ⟨hr.2, hr.1⟩
        · cases hl : (exF bs).l
          · rw [if_neg (by decide), if_pos rfl, if_neg (by decide)]
            decide
          · rw [hn, ha, hl] at hc
            exact absurd hc (by decide)
      · rw [hn] at hc
        exact absurd hc (by simp)
    exact ⟨by rw [nan64_is key.1]; exact decide_eq_false (by omega), key.1⟩
  · rw [if_pos rfl]
    have e : exB bs = 9221120237041090561 := by
      unfold exB exV
      cases hn : (exF bs).n
      · rw [hn] at hc
        have : (exF bs).a = true ∧ (exF bs).l = true := by simpa using hc
        rw [if_neg (by decide), if_pos this.1, if_pos this.2]
      · rw [if_pos rfl]
    rw [e]
    exact ⟨by decide +kernel, by decide⟩
theorem rx_is (bs : List Nat) : Is (rxB bs) (exO bs) := by
  have h := ex_is bs
  unfold exO at h ⊢
  unfold rxB
  cases hc : ((exF bs).n || ((exF bs).a && (exF bs).l))
  · rw [hc, if_neg (by decide)] at h
    rw [if_neg (by decide), if_neg (by decide)]
    exact h
  · rw [if_pos rfl, if_pos rfl]
    exact ⟨by decide +kernel, by decide⟩
theorem len_is (n : Int) : Is (floatOfInt .f64 n) (inj (floatOfInt .f64 n)) := is_inj (by have := floatOfInt_wf .f64 n; simpa [Lit.wf] using this)
theorem is_zero' : Is 0 (some 0) := ⟨rfl, by decide +kernel, by decide⟩
set_option maxRecDepth 100000 in
set_option maxHeartbeats 400000 in
theorem paired_eq (n c d : Nat) (p q : Option Addr) (w : World) (h : n ≤ 65536) : Calls Try.prog 50 #[.slice p n c, .slice q n d] w fun e w' => e = .returned (.int .i64 0) ∧ w' = w := by
  have h1 : (n : Int) ≤ 65536 := by omega
  go_enter Try.func50, Try.ntmps50
  go_wp2
  go_ret
  exact ⟨rfl, rfl⟩
set_option maxRecDepth 100000 in
set_option maxHeartbeats 400000 in
theorem paired_ne (n m c d : Nat) (p q : Option Addr) (w : World) (h : n ≤ 65536) (h' : m ≤ 65536) (hne : n ≠ m) : Calls Try.prog 50 #[.slice p n c, .slice q m d] w fun e w' => e = .returned (.int .i64 51) ∧ w' = w := by
  have h1 : (n : Int) ≤ 65536 := by omega
  have h2 : (m : Int) ≤ 65536 := by omega
  have h3 : ((n : Int) != (m : Int)) = true := by simp; omega
  have h4 : decide (max (n : Int) (m : Int) > 65536) = false := by simp only [decide_eq_false_iff_not]; omega
  have h5 : decide (65536 < max (n : Int) (m : Int)) = false := h4
  go_enter Try.func50, Try.ntmps50
  go_wp2
  go_ret
  exact ⟨rfl, rfl⟩
/-- The sum of the products of the first k. -/
def dotO (us bs : List Nat) : Nat → Option Nat
  | 0 => some 0
  | k + 1 => fop .add (dotO us bs k) (fop .mul (inj (us.getD k 0)) (inj (bs.getD k 0)))
def dF (us bs : List Nat) : Nat → Fl
  | 0 => ⟨false, false, false, false, false⟩
  | k + 1 => (dF us bs k).add (pt 52 11 1023 (us.getD k 0)) (pt 52 11 1023 (bs.getD k 0))
def dZ (us bs : List Nat) : Nat → Int
  | 0 => 0
  | k + 1 => dZ us bs k + prod (pt 52 11 1023 (us.getD k 0)) (pt 52 11 1023 (bs.getD k 0))
theorem le_more {x y : Int} {k P : Nat} (h1 : x.natAbs ≤ k * P) (h2 : y.natAbs ≤ P) : (x + y).natAbs ≤ (k + 1) * P := by
  rw [Nat.succ_mul]
  exact Nat.le_trans (Int.natAbs_add_le _ _) (Nat.add_le_add h1 h2)
theorem dZ_le (us bs : List Nat) : ∀ k, (dZ us bs k).natAbs ≤ k * 2 ^ 4196
  | 0 => Nat.zero_le _
  | k + 1 => by
    have h1 := dZ_le us bs k
    have h2 := prod_le (us.getD k 0) (bs.getD k 0)
    exact le_more h1 h2
theorem dZ_small (us bs : List Nat) (k : Nat) (h : k ≤ 65536) : (dZ us bs k).natAbs < 2 ^ 4213 := by
  have h1 := dZ_le us bs k
  have h2 := many_le k 4196 h
  have h3 := pow_lt' (16 + 4196) 4213 (by omega)
  exact Nat.lt_of_le_of_lt (Nat.le_trans h1 h2) h3
/-- A cell of a list, in a world that is like another below. -/
theorem Rd.at {w w' : World} {bs : List Nat} {p : Option Addr} {n c : Nat} (h : Rd w (.slice p n c) (flt bs)) (hn : n = bs.length) (hb : Below w.heap.size w w') {k : Nat} (hk : k < bs.length) : ∃ g off, p = some ⟨g, off, none⟩ ∧ w'.cell? ⟨g, off + k, none⟩ = some (.float .f64 (bs.getD k 0)) := by
  obtain ⟨a0, c0, e, h0⟩ := h
  rw [flt_len] at e h0
  cases e
  obtain ⟨g, off, rfl, hd⟩ := h0 (by omega)
  have hc := hd k hk
  rw [flt_get bs k hk] at hc
  exact ⟨g, off, rfl, (hb.cell (p := ⟨g, off + k, none⟩) (by simpa using World.block_lt_of_cell? w _ hc)).trans hc⟩
set_option maxRecDepth 100000 in
set_option maxHeartbeats 1000000 in
theorem dot_any (us bs : List Nat) (p q : Option Addr) (c d : Nat) (w : World) (ha : ∀ b ∈ us, b < 18446744073709551616) (hb : ∀ b ∈ bs, b < 18446744073709551616) (hl : us.length ≤ 65536) (he : bs.length = us.length) (hr : Rd w (.slice p us.length c) (flt us)) (hq : Rd w (.slice q us.length d) (flt bs)) : Calls Try.prog 30 #[.slice p us.length c, .slice q us.length d] w fun e w' => ∃ r, e = .returned (.tuple #[.float .f64 r, .int .i64 0]) ∧ Is r (dotO us bs us.length) ∧ Alike w w' := by
  have k50 := fun w => paired_eq us.length c d p q w hl
  have hl2 : (us.length : Int) ≤ 65536 := by omega
  replace ha : Hid (∀ b ∈ us, b < 18446744073709551616) := ha
  replace hb : Hid (∀ b ∈ bs, b < 18446744073709551616) := hb
  replace hr : Hid (Rd w (.slice p us.length c) (flt us)) := hr
  replace hq : Hid (Rd w (.slice q us.length d) (flt bs)) := hq
  replace he : Hid (bs.length = us.length) := he
  clear hl
  go_enter Try.func30, Try.ntmps30
  go_wp2_with fail
  refine (k50 _).mono ?_
  rintro e w1 ⟨rfl, hw⟩
  rw [hw]
  clear hw w1
  go_wp2_with fail
  go_loopw [7, 18] (fun y x wr => ∃ k s : Nat, k ≤ us.length ∧ x = .int .i64 (k : Int) ∧ y = .float .f64 s ∧ Hid (Is s (dotO us bs k)) ∧ Hid (Alike w wr)) (fun _ x _ => us.length - (intOf x).toNat)
  case atStart => exact ⟨0, 0, by omega, rfl, rfl, is_zero', Alike.refl _⟩
  case round =>
    obtain ⟨k, s, hk, rfl, rfl, hS, hA⟩ := hrel
    by_cases ck : k < us.length
    · have k2 : (k : Int) < (us.length : Int) := by omega
      obtain ⟨g, off, rfl, c1⟩ := hr.out.at rfl (hA.out.below _) ck
      obtain ⟨g', off', rfl, c2⟩ := hq.out.at he.out.symm (hA.out.below _) (show k < bs.length by have := he.out; omega)
      have i1 : Hid (Is (us.getD k 0) (inj (us.getD k 0))) := is_inj (getD_lt ha.out k ck)
      have i2 : Hid (Is (bs.getD k 0) (inj (bs.getD k 0))) := is_inj (getD_lt hb.out k (by have := he.out; omega))
      have HS : Hid (dotO us bs (k + 1) = fop .add (dotO us bs k) (fop .mul (inj (us.getD k 0)) (inj (bs.getD k 0)))) := rfl
      generalize us.getD k 0 = x at *
      generalize bs.getD k 0 = y at *
      go_wp2_with (refine wpList_flt rfl .mul .f64 _ _ _ _ rfl rfl _ _ rfl rfl ?_)
      intro r1 w2 f1 a1
      go_wp2_with (refine wpList_flt rfl .add .f64 _ _ _ _ rfl rfl _ _ rfl rfl ?_)
      intro r2 w3 f2 a2
      go_wp2
      refine ⟨⟨k + 1, r2, by omega, by go_num, rfl, ?_, hA.out.trans (a1.out.trans a2.out)⟩, by simp [intOf]; omega⟩
      rw [HS.out]
      exact hS.out.op (i1.out.op i2.out f1.out) f2.out
    · have k2 : ¬ (k : Int) < (us.length : Int) := by omega
      have e : k = us.length := by omega
      replace hS : Hid (Is s (dotO us bs us.length)) := by rw [← e]; exact hS.out
      clear e
      go_wp2
      go_ret2
      exact ⟨s, rfl, hS.out, hA.out⟩
set_option maxRecDepth 100000 in
set_option maxHeartbeats 1000000 in
theorem exdot_any (us bs : List Nat) (p q : Option Addr) (c d : Nat) (w : World) (ha : ∀ b ∈ us, b < 18446744073709551616) (hb : ∀ b ∈ bs, b < 18446744073709551616) (hl : us.length ≤ 65536) (he : bs.length = us.length) (hr : Rd w (.slice p us.length c) (flt us)) (hq : Rd w (.slice q us.length d) (flt bs)) : Calls Try.prog 31 #[.slice p us.length c, .slice q us.length d] w fun e w' => e = .returned (.tuple #[.float .f64 (exV (dF us bs us.length) (dZ us bs us.length)), .int .i64 0]) ∧ Below w.heap.size w w' := by
  have k50 := fun w => paired_eq us.length c d p q w hl
  obtain ⟨hz, hi⟩ := zero_of_info info58
  clear hi
  have hl2 : (us.length : Int) ≤ 65536 := by omega
  have HZ := dZ_small us bs us.length hl
  have k41 : Hid (∀ w', ExAt w' w.heap.size 58 (fun _ => none) (dF us bs us.length) (dZ us bs us.length) → Calls Try.prog 41 #[.pointer (some ⟨w.heap.size, 0, none⟩)] w' fun e w'' => e = .returned (.float .f64 (exV (dF us bs us.length) (dZ us bs us.length))) ∧ Below w'.heap.size w' w'') := fun w' h => sumR_any _ _ _ _ _ _ h HZ
  clear HZ hl
  replace ha : Hid (∀ b ∈ us, b < 18446744073709551616) := ha
  replace hb : Hid (∀ b ∈ bs, b < 18446744073709551616) := hb
  replace hr : Hid (Rd w (.slice p us.length c) (flt us)) := hr
  replace hq : Hid (Rd w (.slice q us.length d) (flt bs)) := hq
  replace he : Hid (bs.length = us.length) := he
  have E0 : Hid (ExAt (w.alloc (.cells (mkW (Array.replicate 71 (.bool false)) fun _ => 0) 58)) w.heap.size 58 (fun _ => none) ⟨false, false, false, false, false⟩ 0) := ex_new w
  have B0 : Hid (Below w.heap.size w (w.alloc (.cells (mkW (Array.replicate 71 (.bool false)) fun _ => 0) 58))) := (Below.refl _ _).alloc (Nat.le_refl _) _
  go_enter Try.func31, Try.ntmps31
  go_wp2_with fail
  refine (k50 _).mono ?_
  rintro e w1 ⟨rfl, hw⟩
  rw [hw]
  clear hw w1
  go_wp2_with fail
  go_loopw [18] (fun x wr => ∃ k : Nat, k ≤ us.length ∧ x = .int .i64 (k : Int) ∧ Hid (ExAt wr w.heap.size 58 (fun _ => none) (dF us bs k) (dZ us bs k)) ∧ Hid (Below w.heap.size w wr)) (fun x _ => us.length - (intOf x).toNat)
  case atStart => exact ⟨0, by omega, rfl, E0.out, B0.out⟩
  case round =>
    clear E0 B0 hz
    obtain ⟨k, hk, rfl, hE, hB⟩ := hrel
    by_cases ck : k < us.length
    · have k2 : (k : Int) < (us.length : Int) := by omega
      obtain ⟨g, off, rfl, c1⟩ := hr.out.at rfl hB.out ck
      obtain ⟨g', off', rfl, c2⟩ := hq.out.at he.out.symm hB.out (show k < bs.length by have := he.out; omega)
      have k40 : Hid (∀ w', ExAt w' w.heap.size 58 (fun _ => none) (dF us bs k) (dZ us bs k) → Calls Try.prog 40 #[.pointer (some ⟨w.heap.size, 0, none⟩), .float .f64 (us.getD k 0), .float .f64 (bs.getD k 0)] w' (AddDone w.heap.size 58 (fun _ => none) (dF us bs (k + 1)) (dZ us bs (k + 1)) w')) := fun w' h => add_any (us.getD k 0) (bs.getD k 0) w.heap.size 58 _ _ _ w' (getD_lt ha.out k ck) (getD_lt hb.out k (by have := he.out; omega)) h
      generalize us.getD k 0 = x at *
      generalize bs.getD k 0 = y at *
      go_wp2_with fail
      refine Calls.mono (k40.out wr hE.out) ?_
      rintro e w1 ⟨rfl, E1, G1⟩
      have hB1 : Hid (Below w.heap.size w w1) := below_of_grown hB.out (Nat.le_refl _) G1
      replace E1 : Hid (ExAt w1 w.heap.size 58 (fun _ => none) (dF us bs (k + 1)) (dZ us bs (k + 1))) := E1
      clear G1 k40
      go_wp2
      exact ⟨⟨k + 1, by omega, by go_num, E1.out, hB1.out⟩, by simp [intOf]; omega⟩
    · have k2 : ¬ (k : Int) < (us.length : Int) := by omega
      have e : k = us.length := by omega
      replace hE : Hid (ExAt wr w.heap.size 58 (fun _ => none) (dF us bs us.length) (dZ us bs us.length)) := by rw [← e]; exact hE.out
      clear e
      go_wp2_with fail
      refine Calls.mono (k41.out wr hE.out) ?_
      rintro e w1 ⟨rfl, b1⟩
      have hB1 : Hid (Below w.heap.size w w1) := hB.out.trans (b1.mono hB.out.size)
      clear b1
      go_wp2
      go_ret2
      exact ⟨rfl, hB1.out⟩
set_option maxRecDepth 100000 in
set_option maxHeartbeats 400000 in
theorem dot_ne (F : Nat) (n m c d : Nat) (p q : Option Addr) (w : World) (h : n ≤ 65536) (h' : m ≤ 65536) (hne : n ≠ m) (hF : F = 30 ∨ F = 31) : Calls Try.prog F #[.slice p n c, .slice q m d] w fun e w' => e = .returned (.tuple #[.float .f64 0, .int .i64 51]) ∧ w' = w := by
  have k50 := fun w => paired_ne n m c d p q w h h' hne
  clear h h' hne
  rcases hF with rfl | rfl
  · go_enter Try.func30, Try.ntmps30
    go_wp2_with fail
    refine (k50 _).mono ?_
    rintro e w1 ⟨rfl, rfl⟩
    go_wp2
    go_ret2
    exact ⟨rfl, rfl⟩
  · go_enter Try.func31, Try.ntmps31
    go_wp2_with fail
    refine (k50 _).mono ?_
    rintro e w1 ⟨rfl, rfl⟩
    go_wp2
    go_ret2
    exact ⟨rfl, rfl⟩
/-- A polynomial, from the last number down. -/
def plO (cs : List Nat) (x : Option Nat) : Nat → Option Nat
  | 0 => inj (cs.getD (cs.length - 1) 0)
  | j + 1 => fop .add (fop .mul (plO cs x j) x) (inj (cs.getD (cs.length - 2 - j) 0))
set_option maxRecDepth 100000 in
set_option maxHeartbeats 1000000 in
theorem poly_any (cs : List Nat) (p : Option Addr) (c x : Nat) (xo : Option Nat) (w : World) (ha : ∀ b ∈ cs, b < 18446744073709551616) (hl : cs.length ≤ 65536) (h0 : 0 < cs.length) (hx : Is x xo) (hr : Rd w (.slice p cs.length c) (flt cs)) : Calls Try.prog 32 #[.slice p cs.length c, .float .f64 x] w fun e w' => ∃ r, e = .returned (.tuple #[.float .f64 r, .int .i64 0]) ∧ Is r (plO cs xo (cs.length - 1)) ∧ Alike w w' := by
  have hl2 : (cs.length : Int) ≤ 65536 := by omega
  have hl3 : ((cs.length : Int) == 0) = false := beq_eq_false_iff_ne.2 (by omega)
  have hl4 : (1 : Int) ≤ (cs.length : Int) := by omega
  obtain ⟨g, off, rfl, c1⟩ := hr.at rfl (Below.refl _ _) (show cs.length - 1 < cs.length by omega)
  have e1 : (cs.length : Int) - 1 = ((cs.length - 1 : Nat) : Int) := by omega
  have e3 : Hid ((cs.length : Int) - 2 = ((cs.length - 1 : Nat) : Int) - 1) := by show (cs.length : Int) - 2 = ((cs.length - 1 : Nat) : Int) - 1; omega
  have e4 : Hid (((cs.length - 1 : Nat) : Int) < cs.length) := by show ((cs.length - 1 : Nat) : Int) < cs.length; omega
  replace ha : Hid (∀ b ∈ cs, b < 18446744073709551616) := ha
  replace hr : Hid (Rd w (.slice (some ⟨g, off, none⟩) cs.length c) (flt cs)) := hr
  replace hx : Hid (Is x xo) := hx
  replace h0 : Hid (0 < cs.length) := h0
  have i0 : Hid (Is (cs.getD (cs.length - 1) 0) (inj (cs.getD (cs.length - 1) 0))) := is_inj (getD_lt ha.out _ (by have := h0.out; omega))
  have P0 : Hid (plO cs xo 0 = inj (cs.getD (cs.length - 1) 0)) := rfl
  have e5 := e4.out
  have e6 := e3.out
  generalize hm : cs.length - 1 = m at *
  replace hm : Hid (cs.length - 1 = m) := hm
  generalize hy0 : cs.getD m 0 = y0 at *
  clear hl
  go_enter Try.func32, Try.ntmps32
  go_wp2_with fail
  go_loopw [7, 8] (fun y z wr => ∃ j s : Nat, j ≤ m ∧ z = .int .i64 ((m : Int) - 1 - (j : Int)) ∧ y = .float .f64 s ∧ Hid (Is s (plO cs xo j)) ∧ Hid (Alike w wr)) (fun _ z _ => (intOf z + 1).toNat)
  case atStart => exact ⟨0, y0, by omega, by simp, rfl, by rw [P0.out]; exact i0.out, Alike.refl _⟩
  case round =>
    obtain ⟨j, s, hj, rfl, rfl, hS, hA⟩ := hrel
    by_cases cj : j < m
    · obtain ⟨k, hk⟩ : ∃ k : Nat, (m : Int) - 1 - (j : Int) = (k : Int) := ⟨m - 1 - j, by omega⟩
      have hkl : k < cs.length := by have := hm.out; omega
      obtain ⟨g', off', eg, c2⟩ := hr.out.at rfl (hA.out.below _) hkl
      cases eg
      rw [hk]
      have k1 : (k : Int) < (cs.length : Int) := by omega
      have k3 : decide ((0 : Int) ≤ (k : Int)) = true := by simp
      have i2 : Hid (Is (cs.getD k 0) (inj (cs.getD k 0))) := is_inj (getD_lt ha.out k hkl)
      have HS : Hid (plO cs xo (j + 1) = fop .add (fop .mul (plO cs xo j) xo) (inj (cs.getD k 0))) := by
        show fop .add (fop .mul (plO cs xo j) xo) (inj (cs.getD (cs.length - 2 - j) 0)) = _
        have : cs.length - 2 - j = k := by have := hm.out; omega
        rw [this]
      have hk' : Hid ((m : Int) - 1 - (j : Int) = (k : Int)) := hk
      clear hk c1
      generalize cs.getD k 0 = y at *
      go_wp2_with (refine wpList_flt rfl .mul .f64 _ _ _ _ rfl rfl _ _ rfl rfl ?_)
      intro r1 w2 f1 a1
      have c3 : w2.cell? ⟨g, off + k, none⟩ = some (.float .f64 y) := (a1.out.cell _).trans c2
      go_wp2_with (refine wpList_flt rfl .add .f64 _ _ _ _ rfl rfl _ _ rfl rfl ?_)
      intro r2 w3 f2 a2
      go_wp2
      refine ⟨⟨j + 1, r2, by omega, by have := hk'.out; congr 1; omega, rfl, ?_, hA.out.trans (a1.out.trans a2.out)⟩, by simp [intOf]⟩
      rw [HS.out]
      exact (hS.out.op hx.out f1.out).op i2.out f2.out
    · have e : j = m := by omega
      subst e
      have k3 : (j : Int) - 1 - (j : Int) = -1 := by omega
      rw [k3]
      go_wp2
      go_ret2
      exact ⟨s, rfl, hS.out, hA.out⟩
set_option maxRecDepth 100000 in
set_option maxHeartbeats 400000 in
theorem poly_any0 (p : Option Addr) (c x : Nat) (w : World) : Calls Try.prog 32 #[.slice p 0 c, .float .f64 x] w fun e w' => e = .returned (.tuple #[.float .f64 0, .int .i64 0]) ∧ w' = w := by
  go_enter Try.func32, Try.ntmps32
  go_wp2
  go_ret2
  exact ⟨rfl, rfl⟩
set_option maxRecDepth 100000 in
set_option maxHeartbeats 1000000 in
theorem rpoly_any (cs : List Nat) (p : Option Addr) (c x : Nat) (xo : Option Nat) (w : World) (ha : ∀ b ∈ cs, b < 18446744073709551616) (hl : cs.length ≤ 65536) (h0 : 0 < cs.length) (hx : Is x xo) (hr : Rd w (.slice p cs.length c) (flt cs)) : Calls Try.prog 33 #[.slice p cs.length c, .float .f64 x] w fun e w' => ∃ r, e = .returned (.float .f64 r) ∧ Is r (plO cs xo (cs.length - 1)) ∧ Alike w w' := by
  have hl2 : (cs.length : Int) ≤ 65536 := by omega
  have hl3 : ((cs.length : Int) == 0) = false := beq_eq_false_iff_ne.2 (by omega)
  have hl4 : (1 : Int) ≤ (cs.length : Int) := by omega
  obtain ⟨g, off, rfl, c1⟩ := hr.at rfl (Below.refl _ _) (show cs.length - 1 < cs.length by omega)
  have e1 : (cs.length : Int) - 1 = ((cs.length - 1 : Nat) : Int) := by omega
  have e3 : Hid ((cs.length : Int) - 2 = ((cs.length - 1 : Nat) : Int) - 1) := by show (cs.length : Int) - 2 = ((cs.length - 1 : Nat) : Int) - 1; omega
  have e4 : Hid (((cs.length - 1 : Nat) : Int) < cs.length) := by show ((cs.length - 1 : Nat) : Int) < cs.length; omega
  replace ha : Hid (∀ b ∈ cs, b < 18446744073709551616) := ha
  replace hr : Hid (Rd w (.slice (some ⟨g, off, none⟩) cs.length c) (flt cs)) := hr
  replace hx : Hid (Is x xo) := hx
  replace h0 : Hid (0 < cs.length) := h0
  have i0 : Hid (Is (cs.getD (cs.length - 1) 0) (inj (cs.getD (cs.length - 1) 0))) := is_inj (getD_lt ha.out _ (by have := h0.out; omega))
  have P0 : Hid (plO cs xo 0 = inj (cs.getD (cs.length - 1) 0)) := rfl
  have e5 := e4.out
  have e6 := e3.out
  generalize hm : cs.length - 1 = m at *
  replace hm : Hid (cs.length - 1 = m) := hm
  generalize hy0 : cs.getD m 0 = y0 at *
  clear hl
  go_enter Try.func33, Try.ntmps33
  go_wp2_with fail
  go_loopw [5, 6] (fun y z wr => ∃ j s : Nat, j ≤ m ∧ z = .int .i64 ((m : Int) - 1 - (j : Int)) ∧ y = .float .f64 s ∧ Hid (Is s (plO cs xo j)) ∧ Hid (Alike w wr)) (fun _ z _ => (intOf z + 1).toNat)
  case atStart => exact ⟨0, y0, by omega, by simp, rfl, by rw [P0.out]; exact i0.out, Alike.refl _⟩
  case round =>
    obtain ⟨j, s, hj, rfl, rfl, hS, hA⟩ := hrel
    by_cases cj : j < m
    · obtain ⟨k, hk⟩ : ∃ k : Nat, (m : Int) - 1 - (j : Int) = (k : Int) := ⟨m - 1 - j, by omega⟩
      have hkl : k < cs.length := by have := hm.out; omega
      obtain ⟨g', off', eg, c2⟩ := hr.out.at rfl (hA.out.below _) hkl
      cases eg
      rw [hk]
      have k1 : (k : Int) < (cs.length : Int) := by omega
      have k3 : decide ((0 : Int) ≤ (k : Int)) = true := by simp
      have i2 : Hid (Is (cs.getD k 0) (inj (cs.getD k 0))) := is_inj (getD_lt ha.out k hkl)
      have HS : Hid (plO cs xo (j + 1) = fop .add (fop .mul (plO cs xo j) xo) (inj (cs.getD k 0))) := by
        show fop .add (fop .mul (plO cs xo j) xo) (inj (cs.getD (cs.length - 2 - j) 0)) = _
        have : cs.length - 2 - j = k := by have := hm.out; omega
        rw [this]
      have hk' : Hid ((m : Int) - 1 - (j : Int) = (k : Int)) := hk
      clear hk c1
      generalize cs.getD k 0 = y at *
      go_wp2_with (refine wpList_flt rfl .mul .f64 _ _ _ _ rfl rfl _ _ rfl rfl ?_)
      intro r1 w2 f1 a1
      have c3 : w2.cell? ⟨g, off + k, none⟩ = some (.float .f64 y) := (a1.out.cell _).trans c2
      go_wp2_with (refine wpList_flt rfl .add .f64 _ _ _ _ rfl rfl _ _ rfl rfl ?_)
      intro r2 w3 f2 a2
      go_wp2
      refine ⟨⟨j + 1, r2, by omega, by have := hk'.out; congr 1; omega, rfl, ?_, hA.out.trans (a1.out.trans a2.out)⟩, by simp [intOf]⟩
      rw [HS.out]
      exact (hS.out.op hx.out f1.out).op i2.out f2.out
    · have e : j = m := by omega
      subst e
      have k3 : (j : Int) - 1 - (j : Int) = -1 := by omega
      rw [k3]
      go_wp2
      go_ret
      exact ⟨s, rfl, hS.out, hA.out⟩
set_option maxRecDepth 100000 in
set_option maxHeartbeats 400000 in
theorem rpoly_any0 (p : Option Addr) (c x : Nat) (w : World) : Calls Try.prog 33 #[.slice p 0 c, .float .f64 x] w fun e w' => e = .returned (.float .f64 0) ∧ w' = w := by
  go_enter Try.func33, Try.ntmps33
  go_wp2
  go_ret
  exact ⟨rfl, rfl⟩
/-- What the region's operations give. -/
def V5 (g off n c g' off' d k s x y : Nat) (O : Option Nat) : (Nat → Bool) → Nat → Value → World → Prop := fun _ j v _ => match j with
  | 0 => v = .float .f64 s
  | 1 => v = .slice (some ⟨g, off, none⟩) n c
  | 2 => v = .int .i64 (k : Int)
  | 3 => v = .pointer (some ⟨g, off + k, none⟩)
  | 4 => v = .float .f64 x
  | 5 => v = .slice (some ⟨g', off', none⟩) n d
  | 6 => v = .int .i64 (k : Int)
  | 7 => v = .pointer (some ⟨g', off' + k, none⟩)
  | 8 => v = .float .f64 y
  | 9 => ∃ r, v = .float .f64 r ∧ Is r (fop .mul (inj x) (inj y))
  | 10 => ∃ r, v = .float .f64 r ∧ Is r (fop .add O (fop .mul (inj x) (inj y)))
  | 11 => ∃ r, v = .float .f64 r ∧ Is r (fop .add O (fop .mul (inj x) (inj y)))
  | _ => True
theorem v5_calm (g off n c g' off' d k s x y : Nat) (O : Option Nat) (w0 : World) (i : Nat) : Calm (grown w0) (V5 g off n c g' off' d k s x y O) i :=
  ⟨fun s w w' hs h hb => grown_steady w0 i s w w' hs h hb, fun _ _ _ _ _ _ _ h _ => h⟩
theorem run_fl {w : World} {l : List (Nat × Value)} {o : Oper} {op : BinOp} {t t' : TypeId} {a b : Operand} (ho : o.op = .binOp op t a b t') (hop : isAr op = true) {k : FloatKind} {p q : Nat} (ha : rho l a = .float k p) (hb : rho l b = .float k q) : ∃ r w', (execOp (rho l) o).run Try.prog w = .ok (.value (.float k r)) w' ∧ Fr k r (floatBits op k p q) ∧ Alike w w' := by
  obtain ⟨r, w', h1, h2, h3⟩ := run_flt (P := Try.prog) op t k p q w hop
  have he : (eqGuard op t a b (.float k p) (.float k q)).run Try.prog w = .ok () w := by cases op <;> first | rfl | (exact absurd hop (by decide))
  refine ⟨r, w', ?_, h2, h3⟩
  unfold execOp
  simp only [ho, ha, hb, Sem.run_bind, Sem.run_pure, Result.andThen_ok, he, h1]
theorem wp_fl {Q : Exit → Act → World → Prop} {o : Oper} {a : Act} {w : World} {K : Act → World → Prop} {op : BinOp} {t t' : TypeId} {x y : Operand} {k : FloatKind} {p q : Nat} (l : List (Nat × Value)) (hl : AllIn a l) (hc : covers o l = true) (ho : o.op = .binOp op t x y t') (hop : isAr op = true) (hx : rho l x = .float k p) (hy : rho l y = .float k q)
    (h : ∀ r w', Fr k r (floatBits op k p q) → Alike w w' → K (a.put o.dst (.float k r)) w') : o.wp Try.prog a w K Q := by
  obtain ⟨r, w', h1, h2, h3⟩ := run_fl (w := w) ho hop hx hy
  exact wp_gen l hl hc h1 (h r w' h2 h3)
theorem run_ia {w : World} {l : List (Nat × Value)} {o : Oper} {a b : Operand} {g off n c k : Nat} (ho : o.op = .indexAddr 22 a b) (ha : rho l a = .slice (some ⟨g, off, none⟩) n c) (hb : rho l b = .int .i64 (k : Int)) (h : k < n) : (execOp (rho l) o).run Try.prog w = .ok (.value (.pointer (some ⟨g, off + k, none⟩))) w := by
  have h2 : ¬ n ≤ k := by omega
  unfold execOp
  simp only [ho, ha, hb]
  simp [Instr.indexAt, asIntOf, run_underlying Try.underlying22, h2, Try.sizeOf25, Instr.sureAddr, Go.WideShapes.add_plain]
theorem run_lf {w : World} {g o b : Nat} (h : w.cell? ⟨g, o, none⟩ = some (.float .f64 b)) : (loadVar 25 ⟨g, o, none⟩).run Try.prog w = .ok (.float .f64 b) w := by
  simp [loadVar, go_sem, run_underlying Try.underlying25, isAgg, h]
set_option maxRecDepth 100000 in
set_option maxHeartbeats 1000000 in
theorem rdot_any (us bs : List Nat) (p q : Option Addr) (c d : Nat) (w : World) (ha : ∀ b ∈ us, b < 18446744073709551616) (hb : ∀ b ∈ bs, b < 18446744073709551616) (hl : us.length ≤ 65536) (he : bs.length = us.length) (hr : Rd w (.slice p us.length c) (flt us)) (hq : Rd w (.slice q us.length d) (flt bs)) : Calls Try.prog 34 #[.slice p us.length c, .slice q us.length d] w fun e w' => ∃ r, e = .returned (.float .f64 r) ∧ Is r (dotO us bs us.length) ∧ Below w.heap.size w w' := by
  have hl2 : (us.length : Int) ≤ 65536 := by omega
  replace ha : Hid (∀ b ∈ us, b < 18446744073709551616) := ha
  replace hb : Hid (∀ b ∈ bs, b < 18446744073709551616) := hb
  replace hr : Hid (Rd w (.slice p us.length c) (flt us)) := hr
  replace hq : Hid (Rd w (.slice q us.length d) (flt bs)) := hq
  replace he : Hid (bs.length = us.length) := he
  clear hl
  go_enter Try.func34, Try.ntmps34
  go_wp2_with fail
  go_loopw [5, 6] (fun y x wr => ∃ k s : Nat, k ≤ us.length ∧ x = .int .i64 (k : Int) ∧ y = .float .f64 s ∧ Hid (Is s (dotO us bs k)) ∧ Hid (Below w.heap.size w wr)) (fun _ x _ => us.length - (intOf x).toNat)
  case atStart => exact ⟨0, 0, by omega, rfl, rfl, is_zero', Below.refl _ _⟩
  case round =>
    obtain ⟨k, s, hk, rfl, rfl, hS, hA⟩ := hrel
    by_cases ck : k < us.length
    · have k2 : (k : Int) < (us.length : Int) := by omega
      obtain ⟨g, off, rfl, c1⟩ := hr.out.at rfl hA.out ck
      obtain ⟨g', off', rfl, c2⟩ := hq.out.at he.out.symm hA.out (show k < bs.length by have := he.out; omega)
      have i1 : Hid (Is (us.getD k 0) (inj (us.getD k 0))) := is_inj (getD_lt ha.out k ck)
      have i2 : Hid (Is (bs.getD k 0) (inj (bs.getD k 0))) := is_inj (getD_lt hb.out k (by have := he.out; omega))
      have HS : Hid (dotO us bs (k + 1) = fop .add (dotO us bs k) (fop .mul (inj (us.getD k 0)) (inj (bs.getD k 0)))) := rfl
      generalize us.getD k 0 = x at *
      generalize bs.getD k 0 = y at *
      have q1 : ∀ {w' : World}, Below wr.heap.size wr w' → w'.cell? ⟨g, off + k, none⟩ = some (.float .f64 x) := fun h => (h.cell (p := ⟨g, off + k, none⟩) (by simpa using World.block_lt_of_cell? wr _ c1)).trans c1
      have q2 : ∀ {w' : World}, Below wr.heap.size wr w' → w'.cell? ⟨g', off' + k, none⟩ = some (.float .f64 y) := fun h => (h.cell (p := ⟨g', off' + k, none⟩) (by simpa using World.block_lt_of_cell? wr _ c2)).trans c2
      go_wp2_with fail
      refine wp_region_turn (grown wr) (V5 g off us.length c g' off' d k s x y (dotO us bs k)) 25 rfl (by kernel_rfl) (by kernel_rfl) (grown_start wr) ⟨?o0, ?o1, ?o2, ?o3, ?o4, ?o5, ?o6, ?o7, ?o8, ?o9, ?o10, ?o11, trivial⟩ ?hdone
      case o0 => exact FlowOp4.plain (v5_calm _ _ _ _ _ _ _ _ _ _ _ _ _ 0) fun a4 w4 s4 cx => ⟨wanted_none rfl, fun K hK => wp_gen [(5, (.float .f64 s))] ⟨cx.keep 5 _ (by kernel_rfl) rfl, trivial⟩ (by kernel_rfl) (by kernel_rfl) (hK.out _ w4 (show V5 _ _ _ _ _ _ _ _ _ _ _ _ _ 0 _ _ from rfl) (Below.refl _ _))⟩
      case o1 => exact FlowOp4.plain (v5_calm _ _ _ _ _ _ _ _ _ _ _ _ _ 1) fun a4 w4 s4 cx => ⟨wanted_none rfl, fun K hK => wp_gen [(0, (.slice (some ⟨g, off, none⟩) us.length c))] ⟨cx.keep 0 _ (by kernel_rfl) rfl, trivial⟩ (by kernel_rfl) (by kernel_rfl) (hK.out _ w4 (show V5 _ _ _ _ _ _ _ _ _ _ _ _ _ 1 _ _ from rfl) (Below.refl _ _))⟩
      case o2 => exact FlowOp4.plain (v5_calm _ _ _ _ _ _ _ _ _ _ _ _ _ 2) fun a4 w4 s4 cx => ⟨wanted_none rfl, fun K hK => wp_gen [(6, (.int .i64 (k : Int)))] ⟨cx.keep 6 _ (by kernel_rfl) rfl, trivial⟩ (by kernel_rfl) (by kernel_rfl) (hK.out _ w4 (show V5 _ _ _ _ _ _ _ _ _ _ _ _ _ 2 _ _ from rfl) (Below.refl _ _))⟩
      case o5 => exact FlowOp4.plain (v5_calm _ _ _ _ _ _ _ _ _ _ _ _ _ 5) fun a4 w4 s4 cx => ⟨wanted_none rfl, fun K hK => wp_gen [(1, (.slice (some ⟨g', off', none⟩) us.length d))] ⟨cx.keep 1 _ (by kernel_rfl) rfl, trivial⟩ (by kernel_rfl) (by kernel_rfl) (hK.out _ w4 (show V5 _ _ _ _ _ _ _ _ _ _ _ _ _ 5 _ _ from rfl) (Below.refl _ _))⟩
      case o6 => exact FlowOp4.plain (v5_calm _ _ _ _ _ _ _ _ _ _ _ _ _ 6) fun a4 w4 s4 cx => ⟨wanted_none rfl, fun K hK => wp_gen [(6, (.int .i64 (k : Int)))] ⟨cx.keep 6 _ (by kernel_rfl) rfl, trivial⟩ (by kernel_rfl) (by kernel_rfl) (hK.out _ w4 (show V5 _ _ _ _ _ _ _ _ _ _ _ _ _ 6 _ _ from rfl) (Below.refl _ _))⟩
      case o3 =>
        exact FlowOp4.plain (v5_calm _ _ _ _ _ _ _ _ _ _ _ _ _ 3) fun a4 w4 s4 cx => ⟨wanted_none rfl, fun K hK => by
          obtain ⟨v1, e1, r1⟩ := cx.slot 1 14 (by kernel_rfl)
          obtain ⟨v2, e2, r2⟩ := cx.slot 2 15 (by kernel_rfl)
          obtain rfl : v1 = _ := r1
          obtain rfl : v2 = _ := r2
          exact wp_gen [(14, (.slice (some ⟨g, off, none⟩) us.length c)), (15, (.int .i64 (k : Int)))] ⟨e1, e2, trivial⟩ (by kernel_rfl) (run_ia rfl rfl rfl ck) (hK.out _ w4 (show V5 _ _ _ _ _ _ _ _ _ _ _ _ _ 3 _ _ from rfl) (Below.refl _ _))⟩
      case o7 =>
        exact FlowOp4.plain (v5_calm _ _ _ _ _ _ _ _ _ _ _ _ _ 7) fun a4 w4 s4 cx => ⟨wanted_none rfl, fun K hK => by
          obtain ⟨v1, e1, r1⟩ := cx.slot 5 18 (by kernel_rfl)
          obtain ⟨v2, e2, r2⟩ := cx.slot 6 19 (by kernel_rfl)
          obtain rfl : v1 = _ := r1
          obtain rfl : v2 = _ := r2
          exact wp_gen [(18, (.slice (some ⟨g', off', none⟩) us.length d)), (19, (.int .i64 (k : Int)))] ⟨e1, e2, trivial⟩ (by kernel_rfl) (run_ia rfl rfl rfl ck) (hK.out _ w4 (show V5 _ _ _ _ _ _ _ _ _ _ _ _ _ 7 _ _ from rfl) (Below.refl _ _))⟩
      case o4 =>
        exact FlowOp4.plain (v5_calm _ _ _ _ _ _ _ _ _ _ _ _ _ 4) fun a4 w4 s4 cx => ⟨wanted_none rfl, fun K hK => by
          obtain ⟨v1, e1, r1⟩ := cx.slot 3 16 (by kernel_rfl)
          obtain rfl : v1 = _ := r1
          have hg : Below wr.heap.size wr w4 := cx.ground
          exact wp_gen [(16, (.pointer (some ⟨g, off + k, none⟩)))] ⟨e1, trivial⟩ (by kernel_rfl) (run_read rfl rfl (run_lf (q1 hg))) (hK.out _ w4 (show V5 _ _ _ _ _ _ _ _ _ _ _ _ _ 4 _ _ from rfl) (Below.refl _ _))⟩
      case o8 =>
        exact FlowOp4.plain (v5_calm _ _ _ _ _ _ _ _ _ _ _ _ _ 8) fun a4 w4 s4 cx => ⟨wanted_none rfl, fun K hK => by
          obtain ⟨v1, e1, r1⟩ := cx.slot 7 20 (by kernel_rfl)
          obtain rfl : v1 = _ := r1
          have hg : Below wr.heap.size wr w4 := cx.ground
          exact wp_gen [(20, (.pointer (some ⟨g', off' + k, none⟩)))] ⟨e1, trivial⟩ (by kernel_rfl) (run_read rfl rfl (run_lf (q2 hg))) (hK.out _ w4 (show V5 _ _ _ _ _ _ _ _ _ _ _ _ _ 8 _ _ from rfl) (Below.refl _ _))⟩
      case o9 =>
        exact FlowOp4.plain (v5_calm _ _ _ _ _ _ _ _ _ _ _ _ _ 9) fun a4 w4 s4 cx => ⟨wanted_none rfl, fun K hK => by
          obtain ⟨v1, e1, r1⟩ := cx.slot 4 17 (by kernel_rfl)
          obtain ⟨v2, e2, r2⟩ := cx.slot 8 21 (by kernel_rfl)
          obtain rfl : v1 = _ := r1
          obtain rfl : v2 = _ := r2
          exact wp_fl [(17, .float .f64 x), (21, .float .f64 y)] ⟨e1, e2, trivial⟩ (by kernel_rfl) rfl rfl rfl rfl fun r w' hf hal => hK.out _ w' ⟨r, rfl, i1.out.op i2.out hf⟩ (hal.below _)⟩
      case o10 =>
        exact FlowOp4.plain (v5_calm _ _ _ _ _ _ _ _ _ _ _ _ _ 10) fun a4 w4 s4 cx => ⟨wanted_none rfl, fun K hK => by
          obtain ⟨v1, e1, r1⟩ := cx.slot 0 13 (by kernel_rfl)
          obtain ⟨v2, e2, ⟨m, rfl, hm⟩⟩ := cx.slot 9 22 (by kernel_rfl)
          obtain rfl : v1 = _ := r1
          exact wp_fl [(13, .float .f64 s), (22, .float .f64 m)] ⟨e1, e2, trivial⟩ (by kernel_rfl) rfl rfl rfl rfl fun r w' hf hal => hK.out _ w' ⟨r, rfl, hS.out.op hm hf⟩ (hal.below _)⟩
      case o11 =>
        exact FlowOp4.plain (v5_calm _ _ _ _ _ _ _ _ _ _ _ _ _ 11) fun a4 w4 s4 cx => ⟨wanted_none rfl, fun K hK => by
          obtain ⟨v1, e1, r1⟩ := cx.slot 10 23 (by kernel_rfl)
          exact wp_gen [(23, v1)] ⟨e1, trivial⟩ (by kernel_rfl) (by kernel_rfl) (hK.out _ w4 r1 (Below.refl _ _))⟩
      case hdone =>
        intro a w2 s2 hs2 hg hz2 hdf hk2 hgot
        obtain ⟨vt, et, ⟨r, rfl, hr2⟩⟩ := got_slot4 hgot 11 5 (by kernel_rfl)
        have ha : At 25 [(0, (.slice (some ⟨g, off, none⟩) us.length c)), (1, (.slice (some ⟨g', off', none⟩) us.length d)), (2, undef), (3, undef), (4, .float .f64 0), (5, .float .f64 r), (6, (.int .i64 (k : Int))), (24, undef)] a := ⟨hz2, hdf, (hk2 0 (by kernel_rfl)).trans rfl, (hk2 1 (by kernel_rfl)).trans rfl, (hk2 2 (by kernel_rfl)).trans rfl, (hk2 3 (by kernel_rfl)).trans rfl, (hk2 4 (by kernel_rfl)).trans rfl, et, (hk2 6 (by kernel_rfl)).trans rfl, (hk2 24 (by kernel_rfl)).trans rfl, trivial⟩
        have hg2 : Hid (Below w.heap.size w w2) := hA.out.trans ((show Below wr.heap.size wr w2 from hg).mono hA.out.size)
        replace hr2 : Hid (Is r (fop .add (dotO us bs k) (fop .mul (inj x) (inj y)))) := hr2
        clear hgot hk2 hs2 hg et
        obtain ⟨f, rfl, h0, h1, h2, h3, h4, h5, h6, h24, -⟩ := ha.lit
        change Exit.inBlock _ _ _ ⟨#[f 0, f 1, f 2, f 3, f 4, f 5, f 6, f 7, f 8, f 9, f 10, f 11, f 12, f 13, f 14, f 15, f 16, f 17, f 18, f 19, f 20, f 21, f 22, f 23, f 24], []⟩ _
        simp only at h0 h1 h2 h3 h4 h5 h6 h24
        simp only [h0, h1, h2, h3, h4, h5, h6, h24]
        clear h0 h1 h2 h3 h4 h5 h6 h24
        simp only [Exit.inBlock, Exit.then]
        go_wp2
        refine ⟨⟨k + 1, r, by omega, by go_num, rfl, ?_, hg2.out⟩, by simp [intOf]; omega⟩
        rw [HS.out]
        exact hr2.out
    · have k2 : ¬ (k : Int) < (us.length : Int) := by omega
      have e : k = us.length := by omega
      replace hS : Hid (Is s (dotO us bs us.length)) := by rw [← e]; exact hS.out
      clear e
      go_wp2
      go_ret
      exact ⟨s, rfl, hS.out, hA.out⟩
def nnB (x y : Nat) : Bool := nan64 x || nan64 y || ((infB x || infB y) && (nulB x || nulB y))
theorem add_two (F : Fl) {x y : Nat} (hx : x < 18446744073709551616) (hy : y < 18446744073709551616) : F.add (pt 52 11 1023 x) (pt 52 11 1023 y) = ⟨F.n || nnB x y, F.a || (!nnB x y && (infB x || infB y) && !(sgB x != sgB y)), F.l || (!nnB x y && (infB x || infB y) && (sgB x != sgB y)), F.m || ((nulB x || nulB y) && (sgB x != sgB y)), F.o || !((nulB x || nulB y) && (sgB x != sgB y))⟩ := by
  obtain ⟨k4, k3, k0⟩ := el_kind hx
  obtain ⟨l4, l3, l0⟩ := el_kind hy
  unfold Fl.add pNn pIn pNt pSn nnB
  rw [k4, k3, k0, l4, l3, l0, el_neg hx, el_neg hy]
theorem prod_fin {x y : Nat} (hx : x < 18446744073709551616) (hy : y < 18446744073709551616) (n1 : nan64 x = false) (n2 : nan64 y = false) (i1 : infB x = false) (i2 : infB y = false) : prod (pt 52 11 1023 x) (pt 52 11 1023 y) * ((2 ^ 52 : Nat) : Int) = sgd (sgB x != sgB y) ((pmB x * pmB y * 2 ^ (peB x + peB y + 2200).toNat : Nat) : Int) := by
  obtain ⟨k4, k3, k0⟩ := el_kind hx
  obtain ⟨l4, l3, l0⟩ := el_kind hy
  have r1 := pe_rng x
  have r2 := pe_rng y
  unfold prod pNn pIn pNt pSn
  rw [k4, k3, k0, l4, l3, l0, el_neg hx, el_neg hy, n1, n2, i1, i2]
  cases z1 : nulB x
  · cases z2 : nulB y
    · obtain ⟨m1, e1⟩ := el_mant n1 i1 hx z1
      obtain ⟨m2, e2⟩ := el_mant n2 i2 hy z2
      rw [m1, e1, m2, e2]
      have e : pmB x * pmB y * 2 ^ (peB x + peB y + 2148).toNat * 2 ^ 52 = pmB x * pmB y * 2 ^ (peB x + peB y + 2200).toNat := by
        rw [show (peB x + peB y + 2200).toNat = (peB x + peB y + 2148).toNat + 52 by omega, Nat.pow_add, Nat.mul_assoc]
      rw [← e]
      cases (sgB x != sgB y)
      · simp [sgd, Int.natCast_mul]
      · simp [sgd, Int.natCast_mul, Int.neg_mul]
    · rw [pm_zero z2, Nat.mul_zero, Nat.zero_mul]
      simp [sgd_zero]
  · rw [pm_zero z1, Nat.zero_mul, Nat.zero_mul]
    simp [sgd_zero]
/-- What stands after k products, none of which is none. -/
structure RdAt (us bs : List Nat) (k : Nat) (up dn al : Bool) (f : Nat → Int) : Prop where
  n : (dF us bs k).n = false
  a : up = (dF us bs k).a
  l : dn = (dF us bs k).l
  o : al = (decide (0 < us.length) && !(dF us bs k).o)
  val : bigV f 280 = dZ us bs k * ((2 ^ 52 : Nat) : Int)
  near : ∀ j, -((k : Int) * 262144) ≤ f j ∧ f j ≤ (k : Int) * 262144
theorem RdAt.start (us bs : List Nat) : RdAt us bs 0 false false (decide (0 < us.length)) fun _ => 0 :=
  ⟨rfl, rfl, rfl, by show _ = (_ && !false); simp, by rw [bigV_zero]; show 0 = (0 : Int) * _; rw [Int.zero_mul], fun j => by simp⟩
theorem RdAt.inf {us bs : List Nat} {k : Nat} {up dn al : Bool} {f : Nat → Int} (h : RdAt us bs k up dn al f) (hx : us.getD k 0 < 18446744073709551616) (hy : bs.getD k 0 < 18446744073709551616) (hn : nnB (us.getD k 0) (bs.getD k 0) = false) (hi : (infB (us.getD k 0) || infB (bs.getD k 0)) = true) : RdAt us bs (k + 1) (up || !(sgB (us.getD k 0) != sgB (bs.getD k 0))) (dn || (sgB (us.getD k 0) != sgB (bs.getD k 0))) false f := by
  have hz : (nulB (us.getD k 0) || nulB (bs.getD k 0)) = false := by
    unfold nnB at hn
    rw [hi] at hn
    simp at hn
    simp [hn.2]
  obtain ⟨k4, k3, k0⟩ := el_kind hx
  obtain ⟨l4, l3, l0⟩ := el_kind hy
  obtain ⟨a1, a2, a3, a4, a5, a6⟩ := h
  have e1 : dF us bs (k + 1) = _ := add_two (dF us bs k) hx hy
  rw [hn, hi, hz] at e1
  have e2 : dZ us bs (k + 1) = dZ us bs k := by
    show dZ us bs k + prod _ _ = _
    unfold prod pIn
    rw [k3, l3, hi]
    simp
  refine ⟨by rw [e1]; simp [a1], by rw [e1]; simp [a2], by rw [e1]; simp [a3], by rw [e1]; simp, by rw [e2]; exact a5, fun j => ?_⟩
  have := a6 j
  push_cast
  omega
theorem split32 (m n : Nat) : m * n = m % 4294967296 * (n % 4294967296) + m / 4294967296 * (n % 4294967296) * 4294967296 + m % 4294967296 * (n / 4294967296) * 4294967296 + m / 4294967296 * (n / 4294967296) * 18446744073709551616 := by
  have h1 : m = m % 4294967296 + m / 4294967296 * 4294967296 := by omega
  have h2 : n = n % 4294967296 + n / 4294967296 * 4294967296 := by omega
  generalize m % 4294967296 = a at *
  generalize m / 4294967296 = b at *
  generalize n % 4294967296 = c at *
  generalize n / 4294967296 = d at *
  subst h1 h2
  rw [Nat.add_mul, Nat.mul_add, Nat.mul_add, show b * 4294967296 * c = b * c * 4294967296 by rw [Nat.mul_right_comm], show a * (d * 4294967296) = a * d * 4294967296 by rw [Nat.mul_assoc], show b * 4294967296 * (d * 4294967296) = b * d * 18446744073709551616 by rw [Nat.mul_mul_mul_comm]]
  omega
theorem pm_53 (b : Nat) : pmB b < 9007199254740992 := by unfold pmB; split <;> omega
theorem plus_ex (f : Nat → Int) (m : Nat) (E : Int) (ng : Bool) (B : Int) (hm : m < 18446744073709551616) (hE : -2200 ≤ E) (hE2 : E ≤ 2100) (hB : B ≤ 576460752303423488) (hf : ∀ j, -B ≤ f j ∧ f j ≤ B) : ∃ g, (∀ w, Calls Try.prog 47 #[.agg (rowB f), .int .u64 (m : Int), .int .i64 E, .bool ng] w fun e w' => e = .returned (.agg (rowB g)) ∧ Below w.heap.size w w') ∧ bigV g 280 = bigV f 280 + sgd ng ((m * 2 ^ (E + 2200).toNat : Nat) : Int) ∧ ∀ j, -(B + 65536) ≤ g j ∧ g j ≤ B + 65536 := by
  obtain ⟨A, hA⟩ : ∃ A : Nat, E + 2200 = (A : Int) := ⟨(E + 2200).toNat, by omega⟩
  rw [hA, Int.toNat_natCast]
  refine ⟨plF f (A / 16) (m * 2 ^ (A % 16) % 18446744073709551616) (hiF m (A % 16)) ng, fun w => ?_, plus_val f m A ng 280 hm (by omega), fun j => ?_⟩
  · have := plus_any f m A ng w hm (by omega) fun j => by have := hf j; omega
    rw [show (A : Int) - 2200 = E by omega] at this
    exact this
  · have h1 := plF_near f (A / 16) (m * 2 ^ (A % 16) % 18446744073709551616) (hiF m (A % 16)) ng (hi_small _ _ (by omega) hm) j
    have h2 := hf j
    omega
theorem mul_small {a c p q : Nat} (h1 : a ≤ p) (h2 : c ≤ q) (h : p * q < 18446744073709551616) : a * c < 18446744073709551616 := Nat.lt_of_le_of_lt (Nat.mul_le_mul h1 h2) h
def Plus (f : Nat → Int) (m : Nat) (E : Int) (ng : Bool) (g : Nat → Int) : Prop := ∀ w, Calls Try.prog 47 #[.agg (rowB f), .int .u64 (m : Int), .int .i64 E, .bool ng] w fun e w' => e = .returned (.agg (rowB g)) ∧ Below w.heap.size w w'
theorem four_sum {a b c d P X : Nat} (hs : X = a + b * 4294967296 + c * 4294967296 + d * 18446744073709551616) : a * P + (b * (4294967296 * P) + (c * (4294967296 * P) + d * (18446744073709551616 * P))) = X * P := by
  rw [hs, Nat.add_mul, Nat.add_mul, Nat.add_mul, Nat.mul_assoc b, Nat.mul_assoc c, Nat.mul_assoc d, Nat.add_assoc, Nat.add_assoc]
theorem RdAt.fin {us bs : List Nat} {k : Nat} {up dn al : Bool} {f : Nat → Int} (h : RdAt us bs k up dn al f) (hk : k ≤ 65536) (hx : us.getD k 0 < 18446744073709551616) (hy : bs.getD k 0 < 18446744073709551616) (n1 : nan64 (us.getD k 0) = false) (n2 : nan64 (bs.getD k 0) = false) (i1 : infB (us.getD k 0) = false) (i2 : infB (bs.getD k 0) = false) : ∃ g1 g2 g3 g4, Plus f (pmB (us.getD k 0) % 4294967296 * (pmB (bs.getD k 0) % 4294967296)) (peB (us.getD k 0) + peB (bs.getD k 0)) (sgB (us.getD k 0) != sgB (bs.getD k 0)) g1 ∧ Plus g1 (pmB (us.getD k 0) / 4294967296 * (pmB (bs.getD k 0) % 4294967296)) (peB (us.getD k 0) + peB (bs.getD k 0) + 32) (sgB (us.getD k 0) != sgB (bs.getD k 0)) g2 ∧ Plus g2 (pmB (us.getD k 0) % 4294967296 * (pmB (bs.getD k 0) / 4294967296)) (peB (us.getD k 0) + peB (bs.getD k 0) + 32) (sgB (us.getD k 0) != sgB (bs.getD k 0)) g3 ∧ Plus g3 (pmB (us.getD k 0) / 4294967296 * (pmB (bs.getD k 0) / 4294967296)) (peB (us.getD k 0) + peB (bs.getD k 0) + 64) (sgB (us.getD k 0) != sgB (bs.getD k 0)) g4 ∧ RdAt us bs (k + 1) up dn (al && ((nulB (us.getD k 0) || nulB (bs.getD k 0)) && (sgB (us.getD k 0) != sgB (bs.getD k 0)))) g4 := by
  have hp := prod_fin hx hy n1 n2 i1 i2
  obtain ⟨a1, a2, a3, a4, a5, a6⟩ := h
  have e1 : dF us bs (k + 1) = _ := add_two (dF us bs k) hx hy
  have e2 : dZ us bs (k + 1) = dZ us bs k + prod (pt 52 11 1023 (us.getD k 0)) (pt 52 11 1023 (bs.getD k 0)) := rfl
  unfold nnB at e1
  rw [n1, n2, i1, i2] at e1
  generalize us.getD k 0 = x at *
  generalize bs.getD k 0 = y at *
  have r1 := pe_rng x
  have r2 := pe_rng y
  have m1 := pm_53 x
  have m2 := pm_53 y
  have hs := split32 (pmB x) (pmB y)
  have b1 : pmB x % 4294967296 * (pmB y % 4294967296) < 18446744073709551616 := mul_small (p := 4294967295) (q := 4294967295) (by omega) (by omega) (by decide)
  have b2 : pmB x / 4294967296 * (pmB y % 4294967296) < 18446744073709551616 := mul_small (p := 4294967295) (q := 4294967295) (by omega) (by omega) (by decide)
  have b3 : pmB x % 4294967296 * (pmB y / 4294967296) < 18446744073709551616 := mul_small (p := 4294967295) (q := 4294967295) (by omega) (by omega) (by decide)
  have b4 : pmB x / 4294967296 * (pmB y / 4294967296) < 18446744073709551616 := mul_small (p := 4294967295) (q := 4294967295) (by omega) (by omega) (by decide)
  obtain ⟨g1, c1, v1, f1⟩ := plus_ex f _ (peB x + peB y) (sgB x != sgB y) ((k : Int) * 262144) b1 (by omega) (by omega) (by omega) a6
  obtain ⟨g2, c2, v2, f2⟩ := plus_ex g1 _ (peB x + peB y + 32) (sgB x != sgB y) _ b2 (by omega) (by omega) (by omega) f1
  obtain ⟨g3, c3, v3, f3⟩ := plus_ex g2 _ (peB x + peB y + 32) (sgB x != sgB y) _ b3 (by omega) (by omega) (by omega) f2
  obtain ⟨g4, c4, v4, f4⟩ := plus_ex g3 _ (peB x + peB y + 64) (sgB x != sgB y) _ b4 (by omega) (by omega) (by omega) f3
  refine ⟨g1, g2, g3, g4, c1, c2, c3, c4, by rw [e1]; simp [a1], by rw [e1]; simp [a2], by rw [e1]; simp [a3], ?_, ?_, fun j => ?_⟩
  · rw [e1, a4]
    dsimp only
    cases decide (0 < us.length) <;> cases (dF us bs k).o <;> cases (nulB x || nulB y) <;> cases (sgB x != sgB y) <;> rfl
  · rw [v4, v3, v2, v1, e2, Int.add_mul, hp, a5, Int.add_assoc, Int.add_assoc, Int.add_assoc, sgd_add, sgd_add, sgd_add]
    rw [show (peB x + peB y + 32 + 2200).toNat = 32 + (peB x + peB y + 2200).toNat by omega, show (peB x + peB y + 64 + 2200).toNat = 64 + (peB x + peB y + 2200).toNat by omega, Nat.pow_add, Nat.pow_add 2 64, show (2 : Nat) ^ 32 = 4294967296 from rfl, show (2 : Nat) ^ 64 = 18446744073709551616 from rfl]
    rw [← Int.natCast_add, ← Int.natCast_add, ← Int.natCast_add, four_sum hs]
  · have := f4 j
    push_cast
    omega
/-- What the document's ExactDot tells. -/
def rdV (us bs : List Nat) : Nat := if ((dF us bs us.length).n || ((dF us bs us.length).a && (dF us bs us.length).l)) = true then 9218868437227405313 else exV (dF us bs us.length) (dZ us bs us.length)
theorem dF_n {us bs : List Nat} (ha : ∀ b ∈ us, b < 18446744073709551616) (hb : ∀ b ∈ bs, b < 18446744073709551616) (he : bs.length = us.length) {k : Nat} (hk : k < us.length) (h : nnB (us.getD k 0) (bs.getD k 0) = true) : (dF us bs us.length).n = true := by
  have key : ∀ j, k < j → j ≤ us.length → (dF us bs j).n = true := by
    intro j hj
    induction j with
    | zero => omega
    | succ j ih =>
      intro hl
      show ((dF us bs j).add _ _).n = true
      rw [add_two _ (getD_lt ha j (by omega)) (getD_lt hb j (by omega))]
      by_cases e : j = k
      · subst e; rw [h]; simp
      · rw [ih (by omega) (by omega)]; simp
  exact key us.length hk (Nat.le_refl _)
theorem dF_o {us bs : List Nat} (ha : ∀ b ∈ us, b < 18446744073709551616) (hb : ∀ b ∈ bs, b < 18446744073709551616) (he : bs.length = us.length) : ∀ j, j ≤ us.length → (dF us bs j).o = false → dZ us bs j = 0 ∧ (0 < j → (dF us bs j).m = true)
  | 0, _, _ => ⟨rfl, fun h => by omega⟩
  | j + 1, hj, h => by
    have hx := getD_lt ha j (by omega)
    have hy := getD_lt hb j (by omega)
    obtain ⟨k4, k3, k0⟩ := el_kind hx
    obtain ⟨l4, l3, l0⟩ := el_kind hy
    have e1 : dF us bs (j + 1) = _ := add_two (dF us bs j) hx hy
    rw [e1] at h
    simp only [Bool.or_eq_false_iff, Bool.not_eq_false'] at h
    obtain ⟨z, -⟩ := dF_o ha hb he j (by omega) h.1
    have h3 := h.2
    rw [Bool.and_eq_true] at h3
    refine ⟨?_, fun _ => ?_⟩
    · show dZ us bs j + prod _ _ = 0
      unfold prod pNt
      rw [k0, l0, h3.1, z]
      simp
    · rw [e1]
      show ((dF us bs j).m || _) = true
      rw [h.2, Bool.or_true]
theorem RdAt.out {us bs : List Nat} {al : Bool} {f : Nat → Int} (h : RdAt us bs us.length false false al f) (ha : ∀ b ∈ us, b < 18446744073709551616) (hb : ∀ b ∈ bs, b < 18446744073709551616) (he : bs.length = us.length) (hl : us.length ≤ 65536) (w : World) : Calls Try.prog 49 #[.agg (rowB f), .bool al] w fun e w' => e = .returned (.float .f64 (rdV us bs)) ∧ Below w.heap.size w w' := by
  obtain ⟨a1, a2, a3, a4, a5, a6⟩ := h
  have hV : (bigV f 280).natAbs = (dZ us bs us.length).natAbs * 2 ^ 52 := by rw [a5, Int.natAbs_mul, Int.natAbs_natCast]
  have hs : (bigV f 280).natAbs < 65536 ^ 280 := small_big 4213 280 (by omega) hV (dZ_small us bs us.length hl)
  have ho := out_any f al w (fun j => by have := a6 j; omega) hs
  have hdo := dF_o ha hb he us.length (Nat.le_refl _)
  have e : outB (bigV f 280) al = rdV us bs := by
    unfold rdV exV outB
    rw [← a2, ← a3, a1, hV, rd_near]
    simp only [Bool.false_eq_true, Bool.and_false, Bool.or_false, if_false]
    have hz : bigV f 280 < 0 ↔ dZ us bs us.length < 0 := by rw [a5]; omega
    have hz2 : bigV f 280 = 0 ↔ dZ us bs us.length = 0 := by rw [a5]; omega
    cases hal : al
    · have hmo : ((dF us bs us.length).m && !(dF us bs us.length).o) = false := by
        cases ho : (dF us bs us.length).o
        · rw [hal, ho] at a4
          have hl0 : us.length = 0 := by simpa using a4.symm
          rw [hl0]
          rfl
        · simp
      rw [hmo]
      simp only [Bool.false_eq_true, and_false, if_false]
      unfold rz
      by_cases c : dZ us bs us.length < 0
      · rw [if_pos (hz.2 c), if_pos c, Nat.add_comm]
      · rw [if_neg (fun q => c (hz.1 q)), if_neg c, Nat.zero_add]
    · rw [hal] at a4
      have a4' := a4.symm
      simp at a4'
      obtain ⟨hzz, hm⟩ := hdo a4'.2
      rw [hm a4'.1, a4'.2]
      rw [if_pos ⟨hz2.2 hzz, rfl⟩]
      rfl
  rw [e] at ho
  exact ho
end Go.Proofs.Ytdhfkdopcphjlaa
