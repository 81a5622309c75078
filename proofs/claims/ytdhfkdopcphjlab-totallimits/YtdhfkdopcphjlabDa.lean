/-
  The contracts of Dot, ExactDot and Poly, and of the document's Poly. Conditions: the floats' bits fit; the lists are not too long; two lists have one length.
-/
import Derived.Test.YtdhfkdopcphjlabFd
import Derived.Deep.QuietTactic
import Derived.BigQuiet
namespace Go.Proofs.Ytdhfkdopcphjlab
open Go.RowKit
theorem is_zero' : Is 0 (some 0) := ⟨rfl, by decide +kernel, by decide⟩
set_option maxRecDepth 100000 in
set_option maxHeartbeats 400000 in
theorem paired_eq (n c d : Nat) (p q : Option Addr) (w : World) (h : n ≤ 65536) : Calls Try.prog 53 #[.slice p n c, .slice q n d] w fun e w' => e = .returned (.int .i64 0) ∧ w' = w := by
  have h1 : (n : Int) ≤ 65536 := by omega
  go_enter Try.func53, Try.ntmps53
  go_wp2
  go_ret
  exact ⟨rfl, rfl⟩
set_option maxRecDepth 100000 in
set_option maxHeartbeats 400000 in
theorem paired_ne (n m c d : Nat) (p q : Option Addr) (w : World) (h : n ≤ 65536) (h' : m ≤ 65536) (hne : n ≠ m) : Calls Try.prog 53 #[.slice p n c, .slice q m d] w fun e w' => e = .returned (.int .i64 51) ∧ w' = w := by
  have h1 : (n : Int) ≤ 65536 := by omega
  have h2 : (m : Int) ≤ 65536 := by omega
  have h3 : ((n : Int) != (m : Int)) = true := by simp; omega
  have h4 : decide (max (n : Int) (m : Int) > 65536) = false := by simp only [decide_eq_false_iff_not]; omega
  have h5 : decide (65536 < max (n : Int) (m : Int)) = false := h4
  go_enter Try.func53, Try.ntmps53
  go_wp2
  go_ret
  exact ⟨rfl, rfl⟩
/-- The sum of the products of the first k. -/
def dotO (us bs : List Nat) : Nat → Option Nat
  | 0 => some 0
  | k + 1 => fop .add (dotO us bs k) (fop .mul (inj (us.getD k 0)) (inj (bs.getD k 0)))
def dF (us bs : List Nat) : Nat → Fl
  | 0 => ⟨false, false, false, false, false⟩
  | k + 1 => (dF us bs k).add (pt 52 11 1023 (us.getD k 0)) (pt 52 11 1023 (bs.getD k 0))
def dZ (us bs : List Nat) : Nat → Int
  | 0 => 0
  | k + 1 => dZ us bs k + prod (pt 52 11 1023 (us.getD k 0)) (pt 52 11 1023 (bs.getD k 0))
theorem le_more {x y : Int} {k P : Nat} (h1 : x.natAbs ≤ k * P) (h2 : y.natAbs ≤ P) : (x + y).natAbs ≤ (k + 1) * P := by
  rw [Nat.succ_mul]
  exact Nat.le_trans (Int.natAbs_add_le _ _) (Nat.add_le_add h1 h2)
theorem dZ_le (us bs : List Nat) : ∀ k, (dZ us bs k).natAbs ≤ k * 2 ^ 4196
  | 0 => Nat.zero_le _
  | k + 1 => by
    have h1 := dZ_le us bs k
    have h2 := prod_le (us.getD k 0) (bs.getD k 0)
    exact le_more h1 h2
theorem dZ_small (us bs : List Nat) (k : Nat) (h : k ≤ 65536) : (dZ us bs k).natAbs < 2 ^ 4213 := by
  have h1 := dZ_le us bs k
  have h2 := many_le k 4196 h
  have h3 := pow_lt' (16 + 4196) 4213 (by omega)
  exact Nat.lt_of_le_of_lt (Nat.le_trans h1 h2) h3
/-- A cell of a list, in a world that is like another below. -/
theorem Rd.at {w w' : World} {bs : List Nat} {p : Option Addr} {n c : Nat} (h : Rd w (.slice p n c) (flt bs)) (hn : n = bs.length) (hb : Below w.heap.size w w') {k : Nat} (hk : k < bs.length) : ∃ g off, p = some ⟨g, off, none⟩ ∧ w'.cell? ⟨g, off + k, none⟩ = some (.float .f64 (bs.getD k 0)) := by
  obtain ⟨a0, c0, e, h0⟩ := h
  rw [flt_len] at e h0
  cases e
  obtain ⟨g, off, rfl, hd⟩ := h0 (by omega)
  have hc := hd k hk
  rw [flt_get bs k hk] at hc
  exact ⟨g, off, rfl, (hb.cell (p := ⟨g, off + k, none⟩) (by simpa using World.block_lt_of_cell? w _ hc)).trans hc⟩
set_option maxRecDepth 100000 in
set_option maxHeartbeats 1000000 in
theorem dot_any (us bs : List Nat) (p q : Option Addr) (c d : Nat) (w : World) (ha : ∀ b ∈ us, b < 18446744073709551616) (hb : ∀ b ∈ bs, b < 18446744073709551616) (hl : us.length ≤ 65536) (he : bs.length = us.length) (hr : Rd w (.slice p us.length c) (flt us)) (hq : Rd w (.slice q us.length d) (flt bs)) : Calls Try.prog 15 #[.slice p us.length c, .slice q us.length d] w fun e w' => ∃ r, e = .returned (.tuple #[.float .f64 r, .int .i64 0]) ∧ Is r (dotO us bs us.length) ∧ Alike w w' := by
  have k50 := fun w => paired_eq us.length c d p q w hl
  have hl2 : (us.length : Int) ≤ 65536 := by omega
  replace ha : Hid (∀ b ∈ us, b < 18446744073709551616) := ha
  replace hb : Hid (∀ b ∈ bs, b < 18446744073709551616) := hb
  replace hr : Hid (Rd w (.slice p us.length c) (flt us)) := hr
  replace hq : Hid (Rd w (.slice q us.length d) (flt bs)) := hq
  replace he : Hid (bs.length = us.length) := he
  clear hl
  go_enter Try.func15, Try.ntmps15
  go_wp2_with fail
  refine (k50 _).mono ?_
  rintro e w1 ⟨rfl, hw⟩
  rw [hw]
  clear hw w1
  go_wp2_with fail
  go_loopw [7, 18] (fun y x wr => ∃ k s : Nat, k ≤ us.length ∧ x = .int .i64 (k : Int) ∧ y = .float .f64 s ∧ Hid (Is s (dotO us bs k)) ∧ Hid (Alike w wr)) (fun _ x _ => us.length - (intOf x).toNat)
  case atStart => exact ⟨0, 0, by omega, rfl, rfl, is_zero', Alike.refl _⟩
  case round =>
    obtain ⟨k, s, hk, rfl, rfl, hS, hA⟩ := hrel
    by_cases ck : k < us.length
    · have k2 : (k : Int) < (us.length : Int) := by omega
      obtain ⟨g, off, rfl, c1⟩ := hr.out.at rfl (hA.out.below _) ck
      obtain ⟨g', off', rfl, c2⟩ := hq.out.at he.out.symm (hA.out.below _) (show k < bs.length by have := he.out; omega)
      have i1 : Hid (Is (us.getD k 0) (inj (us.getD k 0))) := is_inj (getD_lt ha.out k ck)
      have i2 : Hid (Is (bs.getD k 0) (inj (bs.getD k 0))) := is_inj (getD_lt hb.out k (by have := he.out; omega))
      have HS : Hid (dotO us bs (k + 1) = fop .add (dotO us bs k) (fop .mul (inj (us.getD k 0)) (inj (bs.getD k 0)))) := rfl
      generalize us.getD k 0 = x at *
      generalize bs.getD k 0 = y at *
      go_wp2_with (refine wpList_flt rfl .mul .f64 _ _ _ _ rfl rfl _ _ rfl rfl ?_)
      intro r1 w2 f1 a1
      go_wp2_with (refine wpList_flt rfl .add .f64 _ _ _ _ rfl rfl _ _ rfl rfl ?_)
      intro r2 w3 f2 a2
      go_wp2
      refine ⟨⟨k + 1, r2, by omega, by go_num, rfl, ?_, hA.out.trans (a1.out.trans a2.out)⟩, by simp [intOf]; omega⟩
      rw [HS.out]
      exact hS.out.op (i1.out.op i2.out f1.out) f2.out
    · have k2 : ¬ (k : Int) < (us.length : Int) := by omega
      have e : k = us.length := by omega
      replace hS : Hid (Is s (dotO us bs us.length)) := by rw [← e]; exact hS.out
      clear e
      go_wp2
      go_ret2
      exact ⟨s, rfl, hS.out, hA.out⟩
set_option maxRecDepth 100000 in
set_option maxHeartbeats 1000000 in
theorem exdot_any (us bs : List Nat) (p q : Option Addr) (c d : Nat) (w : World) (ha : ∀ b ∈ us, b < 18446744073709551616) (hb : ∀ b ∈ bs, b < 18446744073709551616) (hl : us.length ≤ 65536) (he : bs.length = us.length) (hr : Rd w (.slice p us.length c) (flt us)) (hq : Rd w (.slice q us.length d) (flt bs)) : Calls Try.prog 19 #[.slice p us.length c, .slice q us.length d] w fun e w' => e = .returned (.tuple #[.float .f64 (exV (dF us bs us.length) (dZ us bs us.length)), .int .i64 0]) ∧ Below w.heap.size w w' := by
  have k50 := fun w => paired_eq us.length c d p q w hl
  obtain ⟨hz, hi⟩ := zero_of_info info58
  clear hi
  have hl2 : (us.length : Int) ≤ 65536 := by omega
  have HZ := dZ_small us bs us.length hl
  have k41 : Hid (∀ w', ExAt w' w.heap.size 69 (fun _ => none) (dF us bs us.length) (dZ us bs us.length) → Calls Try.prog 52 #[.pointer (some ⟨w.heap.size, 0, none⟩)] w' fun e w'' => e = .returned (.float .f64 (exV (dF us bs us.length) (dZ us bs us.length))) ∧ Below w'.heap.size w' w'') := fun w' h => sumR_any _ _ _ _ _ _ h HZ
  clear HZ hl
  replace ha : Hid (∀ b ∈ us, b < 18446744073709551616) := ha
  replace hb : Hid (∀ b ∈ bs, b < 18446744073709551616) := hb
  replace hr : Hid (Rd w (.slice p us.length c) (flt us)) := hr
  replace hq : Hid (Rd w (.slice q us.length d) (flt bs)) := hq
  replace he : Hid (bs.length = us.length) := he
  have E0 : Hid (ExAt (w.alloc (.cells (mkW (Array.replicate 71 (.bool false)) fun _ => 0) 69)) w.heap.size 69 (fun _ => none) ⟨false, false, false, false, false⟩ 0) := ex_new w
  have B0 : Hid (Below w.heap.size w (w.alloc (.cells (mkW (Array.replicate 71 (.bool false)) fun _ => 0) 69))) := (Below.refl _ _).alloc (Nat.le_refl _) _
  go_enter Try.func19, Try.ntmps19
  go_wp2_with fail
  refine (k50 _).mono ?_
  rintro e w1 ⟨rfl, hw⟩
  rw [hw]
  clear hw w1
  go_wp2_with fail
  go_loopw [18] (fun x wr => ∃ k : Nat, k ≤ us.length ∧ x = .int .i64 (k : Int) ∧ Hid (ExAt wr w.heap.size 69 (fun _ => none) (dF us bs k) (dZ us bs k)) ∧ Hid (Below w.heap.size w wr)) (fun x _ => us.length - (intOf x).toNat)
  case atStart => exact ⟨0, by omega, rfl, E0.out, B0.out⟩
  case round =>
    clear E0 B0 hz
    obtain ⟨k, hk, rfl, hE, hB⟩ := hrel
    by_cases ck : k < us.length
    · have k2 : (k : Int) < (us.length : Int) := by omega
      obtain ⟨g, off, rfl, c1⟩ := hr.out.at rfl hB.out ck
      obtain ⟨g', off', rfl, c2⟩ := hq.out.at he.out.symm hB.out (show k < bs.length by have := he.out; omega)
      have k40 : Hid (∀ w', ExAt w' w.heap.size 69 (fun _ => none) (dF us bs k) (dZ us bs k) → Calls Try.prog 51 #[.pointer (some ⟨w.heap.size, 0, none⟩), .float .f64 (us.getD k 0), .float .f64 (bs.getD k 0)] w' (AddDone w.heap.size 69 (fun _ => none) (dF us bs (k + 1)) (dZ us bs (k + 1)) w')) := fun w' h => add_any (us.getD k 0) (bs.getD k 0) w.heap.size 69 _ _ _ w' (getD_lt ha.out k ck) (getD_lt hb.out k (by have := he.out; omega)) h
      generalize us.getD k 0 = x at *
      generalize bs.getD k 0 = y at *
      go_wp2_with fail
      refine Calls.mono (k40.out wr hE.out) ?_
      rintro e w1 ⟨rfl, E1, G1⟩
      have hB1 : Hid (Below w.heap.size w w1) := below_of_grown hB.out (Nat.le_refl _) G1
      replace E1 : Hid (ExAt w1 w.heap.size 69 (fun _ => none) (dF us bs (k + 1)) (dZ us bs (k + 1))) := E1
      clear G1 k40
      go_wp2
      exact ⟨⟨k + 1, by omega, by go_num, E1.out, hB1.out⟩, by simp [intOf]; omega⟩
    · have k2 : ¬ (k : Int) < (us.length : Int) := by omega
      have e : k = us.length := by omega
      replace hE : Hid (ExAt wr w.heap.size 69 (fun _ => none) (dF us bs us.length) (dZ us bs us.length)) := by rw [← e]; exact hE.out
      clear e
      go_wp2_with fail
      refine Calls.mono (k41.out wr hE.out) ?_
      rintro e w1 ⟨rfl, b1⟩
      have hB1 : Hid (Below w.heap.size w w1) := hB.out.trans (b1.mono hB.out.size)
      clear b1
      go_wp2
      go_ret2
      exact ⟨rfl, hB1.out⟩
set_option maxRecDepth 100000 in
set_option maxHeartbeats 400000 in
theorem dot_ne (F : Nat) (n m c d : Nat) (p q : Option Addr) (w : World) (h : n ≤ 65536) (h' : m ≤ 65536) (hne : n ≠ m) (hF : F = 15 ∨ F = 19) : Calls Try.prog F #[.slice p n c, .slice q m d] w fun e w' => e = .returned (.tuple #[.float .f64 0, .int .i64 51]) ∧ w' = w := by
  have k50 := fun w => paired_ne n m c d p q w h h' hne
  clear h h' hne
  rcases hF with rfl | rfl
  · go_enter Try.func15, Try.ntmps15
    go_wp2_with fail
    refine (k50 _).mono ?_
    rintro e w1 ⟨rfl, rfl⟩
    go_wp2
    go_ret2
    exact ⟨rfl, rfl⟩
  · go_enter Try.func19, Try.ntmps19
    go_wp2_with fail
    refine (k50 _).mono ?_
    rintro e w1 ⟨rfl, rfl⟩
    go_wp2
    go_ret2
    exact ⟨rfl, rfl⟩
/-- A polynomial, from the last number down. -/
def plO (cs : List Nat) (x : Option Nat) : Nat → Option Nat
  | 0 => inj (cs.getD (cs.length - 1) 0)
  | j + 1 => fop .add (fop .mul (plO cs x j) x) (inj (cs.getD (cs.length - 2 - j) 0))
set_option maxRecDepth 100000 in
set_option maxHeartbeats 1000000 in
theorem poly_any (cs : List Nat) (p : Option Addr) (c x : Nat) (xo : Option Nat) (w : World) (ha : ∀ b ∈ cs, b < 18446744073709551616) (hl : cs.length ≤ 65536) (h0 : 0 < cs.length) (hx : Is x xo) (hr : Rd w (.slice p cs.length c) (flt cs)) : Calls Try.prog 17 #[.slice p cs.length c, .float .f64 x] w fun e w' => ∃ r, e = .returned (.tuple #[.float .f64 r, .int .i64 0]) ∧ Is r (plO cs xo (cs.length - 1)) ∧ Alike w w' := by
  have hl2 : (cs.length : Int) ≤ 65536 := by omega
  have hl3 : ((cs.length : Int) == 0) = false := beq_eq_false_iff_ne.2 (by omega)
  have hl4 : (1 : Int) ≤ (cs.length : Int) := by omega
  obtain ⟨g, off, rfl, c1⟩ := hr.at rfl (Below.refl _ _) (show cs.length - 1 < cs.length by omega)
  have e1 : (cs.length : Int) - 1 = ((cs.length - 1 : Nat) : Int) := by omega
  have e3 : Hid ((cs.length : Int) - 2 = ((cs.length - 1 : Nat) : Int) - 1) := by show (cs.length : Int) - 2 = ((cs.length - 1 : Nat) : Int) - 1; omega
  have e4 : Hid (((cs.length - 1 : Nat) : Int) < cs.length) := by show ((cs.length - 1 : Nat) : Int) < cs.length; omega
  replace ha : Hid (∀ b ∈ cs, b < 18446744073709551616) := ha
  replace hr : Hid (Rd w (.slice (some ⟨g, off, none⟩) cs.length c) (flt cs)) := hr
  replace hx : Hid (Is x xo) := hx
  replace h0 : Hid (0 < cs.length) := h0
  have i0 : Hid (Is (cs.getD (cs.length - 1) 0) (inj (cs.getD (cs.length - 1) 0))) := is_inj (getD_lt ha.out _ (by have := h0.out; omega))
  have P0 : Hid (plO cs xo 0 = inj (cs.getD (cs.length - 1) 0)) := rfl
  have e5 := e4.out
  have e6 := e3.out
  generalize hm : cs.length - 1 = m at *
  replace hm : Hid (cs.length - 1 = m) := hm
  generalize hy0 : cs.getD m 0 = y0 at *
  clear hl
  go_enter Try.func17, Try.ntmps17
  go_wp2_with fail
  go_loopw [7, 8] (fun y z wr => ∃ j s : Nat, j ≤ m ∧ z = .int .i64 ((m : Int) - 1 - (j : Int)) ∧ y = .float .f64 s ∧ Hid (Is s (plO cs xo j)) ∧ Hid (Alike w wr)) (fun _ z _ => (intOf z + 1).toNat)
  case atStart => exact ⟨0, y0, by omega, by simp, rfl, by rw [P0.out]; exact i0.out, Alike.refl _⟩
  case round =>
    obtain ⟨j, s, hj, rfl, rfl, hS, hA⟩ := hrel
    by_cases cj : j < m
    · obtain ⟨k, hk⟩ : ∃ k : Nat, (m : Int) - 1 - (j : Int) = (k : Int) := ⟨m - 1 - j, by omega⟩
      have hkl : k < cs.length := by have := hm.out; omega
      obtain ⟨g', off', eg, c2⟩ := hr.out.at rfl (hA.out.below _) hkl
      cases eg
      rw [hk]
      have k1 : (k : Int) < (cs.length : Int) := by omega
      have k3 : decide ((0 : Int) ≤ (k : Int)) = true := by simp
      have i2 : Hid (Is (cs.getD k 0) (inj (cs.getD k 0))) := is_inj (getD_lt ha.out k hkl)
      have HS : Hid (plO cs xo (j + 1) = fop .add (fop .mul (plO cs xo j) xo) (inj (cs.getD k 0))) := by
        show fop .add (fop .mul (plO cs xo j) xo) (inj (cs.getD (cs.length - 2 - j) 0)) = _
        have : cs.length - 2 - j = k := by have := hm.out; omega
        rw [this]
      have hk' : Hid ((m : Int) - 1 - (j : Int) = (k : Int)) := hk
      clear hk c1
      generalize cs.getD k 0 = y at *
      go_wp2_with (refine wpList_flt rfl .mul .f64 _ _ _ _ rfl rfl _ _ rfl rfl ?_)
      intro r1 w2 f1 a1
      have c3 : w2.cell? ⟨g, off + k, none⟩ = some (.float .f64 y) := (a1.out.cell _).trans c2
      go_wp2_with (refine wpList_flt rfl .add .f64 _ _ _ _ rfl rfl _ _ rfl rfl ?_)
      intro r2 w3 f2 a2
      go_wp2
      refine ⟨⟨j + 1, r2, by omega, by have := hk'.out; congr 1; omega, rfl, ?_, hA.out.trans (a1.out.trans a2.out)⟩, by simp [intOf]⟩
      rw [HS.out]
      exact (hS.out.op hx.out f1.out).op i2.out f2.out
    · have e : j = m := by omega
      subst e
      have k3 : (j : Int) - 1 - (j : Int) = -1 := by omega
      rw [k3]
      go_wp2
      go_ret2
      exact ⟨s, rfl, hS.out, hA.out⟩
set_option maxRecDepth 100000 in
set_option maxHeartbeats 400000 in
theorem poly_any0 (p : Option Addr) (c x : Nat) (w : World) : Calls Try.prog 17 #[.slice p 0 c, .float .f64 x] w fun e w' => e = .returned (.tuple #[.float .f64 0, .int .i64 0]) ∧ w' = w := by
  go_enter Try.func17, Try.ntmps17
  go_wp2
  go_ret2
  exact ⟨rfl, rfl⟩
end Go.Proofs.Ytdhfkdopcphjlab
